package dover

import (
	"fmt"
	"math"
	"math/big"
	"math/rand"
	"slices"
	"testing"

	"tocsin/api"
	"tocsin/edf"
	"tocsin/job"
	"tocsin/trace"
)

// even is the rule 1 / 1: a job must be worth more than twice as much.
var even = Rule{P: 1, Q: 1}

// needs is a valid job that needs its budget and has no cleanup.
func needs(release, deadline, budget, value int) job.Job {
	return job.Job{Name: "a", Release: release, Deadline: deadline, Budget: budget, Actual: budget, Value: value}
}

// clip is a valid job of which budget, actual and clean differ.
func clip(release, deadline, budget, actual, value, clean int) job.Job {
	return job.Job{Name: "b", Release: release, Deadline: deadline, Budget: budget, Actual: actual, Value: value, Clean: clean}
}

// notValid are lists of jobs for which job.All is false, by what is wrong in them.
func notValid() map[string][]job.Job {
	return map[string][]job.Job{
		"an empty job":        {{}},
		"a fault in the last": {needs(0, 2, 1, 1), needs(0, 2, 2, 1), needs(0, api.MaxTick+1, 1, 1)},
		"a fault in another":  {{}, needs(0, 2, 1, 1)},
		"too many jobs":       slices.Repeat([]job.Job{needs(0, 9, 1, 1)}, api.MaxJobs+1),
		"no name":             {{Deadline: 9, Budget: 1, Actual: 1}},
		"a negative release":  {needs(-1, 9, 1, 1)},
		"a far release":       {needs(math.MinInt, 9, 1, 1)},
		"no room":             {needs(4, 4, 1, 1)},
		"no work":             {needs(0, 9, 0, 1)},
		"too much work":       {needs(0, 9, api.MaxWork+1, 1)},
		"too great an actual": {clip(0, 9, 1, math.MaxInt, 1, 0)},
		"too great a value":   {needs(0, 9, 1, api.MaxValue+1)},
		"a negative value":    {needs(0, 9, 1, -1)},
		"too long a cleanup":  {clip(0, 9, 1, 1, 1, api.MaxClean+1)},
	}
}

// notRules are rules that are not valid.
func notRules() []Rule {
	return []Rule{
		{}, {P: 1}, {Q: 1}, {P: 1, Q: 2}, {P: 0, Q: 1}, {P: -1, Q: 1}, {P: 1, Q: -1}, {P: -1, Q: -1}, {P: -1, Q: -2},
		{P: 999999, Q: 1000000}, {P: 1000001, Q: 1}, {P: 1000001, Q: 1000000}, {P: 1000001, Q: 1000001}, {P: 1000000, Q: 1000001},
		{P: math.MaxInt64, Q: 1}, {P: math.MaxInt64, Q: math.MaxInt64}, {P: math.MinInt64, Q: math.MinInt64}, {P: 1, Q: math.MinInt64},
		{P: 1<<32 + 1, Q: 1}, {P: 1<<32 + 1, Q: 1<<32 + 1},
	}
}

// show is an Out as text, in which no list differs from an empty one.
func show(o Out) string { return fmt.Sprint(o.Trace, o.Fates, o.Alarms) }

// runIs checks what comes of the jobs.
func runIs(t *testing.T, label string, r Rule, l []job.Job, want string) {
	t.Helper()
	if o, errno := Run(r, l); show(o) != want || errno != api.OK {
		t.Errorf("P19.1: %s: Run(%v, %+v): %s, %d, want %s, 0", label, r, l, show(o), errno, want)
	}
}

// refused checks that nothing is told but EARG.
func refused(t *testing.T, label string, r Rule, l []job.Job) {
	t.Helper()
	if o, errno := Run(r, l); len(o.Trace)+len(o.Fates)+len(o.Alarms) != 0 || errno != api.EARG {
		t.Errorf("P19.1: %s: Run(%v, ..): %s, %d, want nothing, EARG", label, r, show(o), errno)
	}
}

func TestGood(t *testing.T) {
	for _, r := range []Rule{
		{P: 1, Q: 1}, {P: 2, Q: 1}, {P: 3, Q: 2}, {P: 1000000, Q: 1}, {P: 1000000, Q: 999999}, {P: 1000000, Q: 1000000}, {P: 999999, Q: 999999},
	} {
		if !Good(r) {
			t.Errorf("P19.1: Good(%v): false, want true", r)
		}
	}
	for _, r := range notRules() {
		if Good(r) {
			t.Errorf("P19.1: Good(%v): true, want false", r)
		}
	}
}

func TestRefused(t *testing.T) {
	fine := []job.Job{needs(0, 4, 2, 5), needs(0, 2, 2, 9)}
	for _, r := range notRules() {
		refused(t, "a rule that is not valid", r, fine)
		refused(t, "a rule that is not valid, of no jobs", r, nil)
		refused(t, "neither rule nor jobs valid", r, []job.Job{{}})
	}
	for label, l := range notValid() {
		refused(t, label, even, l)
		refused(t, label, Rule{P: 1000000, Q: 1000000}, l)
	}
}

func TestNoJobs(t *testing.T) {
	runIs(t, "nil", even, nil, "[] [] []")
	runIs(t, "no jobs", even, []job.Job{}, "[] [] []")
}

func TestExample(t *testing.T) {
	l := []job.Job{needs(0, 4, 4, 3), needs(0, 4, 4, 4)}
	runIs(t, "the example", even, l, "[0 0 0 0] [{1 4} {3 0}] [1]")
}

// TestOneJob: the outcome and the tick of it, without any other job.
func TestOneJob(t *testing.T) {
	for _, test := range []struct {
		label string
		j     job.Job
		want  string
	}{
		{"just met", needs(0, 3, 3, 1), "[0 0 0] [{1 3}] []"},
		{"met before", needs(2, 6, 2, 1), "[-1 -1 0 0 -1 -1] [{1 4}] []"},
		{"less than its budget", clip(1, 5, 3, 1, 1, 2), "[-1 0 -1 -1 -1] [{1 2}] []"},
		{"worth nothing", needs(0, 2, 1, 0), "[0 -1] [{1 1}] []"},
		{"one tick too few", needs(0, 3, 4, 1), "[0 0 0] [{5 3}] []"},
		{"far too few", needs(4, 5, 1000, 1), "[-1 -1 -1 -1 0] [{5 5}] []"},
		{"its budget fits not, but its actual", clip(0, 3, 9, 3, 1, 9), "[0 0 0] [{1 3}] []"},
		{"aborted, without cleanup", clip(0, 4, 2, 3, 1, 0), "[0 0 -1 -1] [{2 2}] []"},
		{"aborted, and cleaned up", clip(0, 4, 2, 9, 1, 1), "[0 0 0 -1] [{2 3}] []"},
		{"cleaned up just in time", clip(0, 4, 2, 3, 1, 2), "[0 0 0 0] [{2 4}] []"},
		{"cleanup without end", clip(0, 4, 2, 3, 1, 3), "[0 0 0 0] [{5 4}] []"},
		{"expired ahead of its cleanup", clip(0, 2, 2, 3, 1, 1), "[0 0] [{5 2}] []"},
		{"hard", job.Job{Name: "h", Deadline: 3, Budget: 4, Actual: 4, Hard: true}, "[0 0 0] [{5 3}] []"},
	} {
		runIs(t, test.label, even, []job.Job{test.j}, test.want)
	}
}

// TestOrder: by Deadline and then by index, of those that are released; the jobs are worth alike, and none too many.
func TestOrder(t *testing.T) {
	for _, test := range []struct {
		label string
		l     []job.Job
		want  string
	}{
		{"the earlier deadline first", []job.Job{needs(0, 5, 2, 1), needs(0, 4, 2, 1)}, "[1 1 0 0 -1] [{1 4} {1 2}] []"},
		{"one deadline: the first index", []job.Job{needs(0, 4, 2, 1), needs(0, 4, 2, 1)}, "[0 0 1 1] [{1 2} {1 4}] []"},
		{"preempted", []job.Job{needs(0, 9, 3, 1), needs(1, 4, 2, 1)}, "[0 1 1 0 0 -1 -1 -1 -1] [{1 5} {1 3}] []"},
		{"not preempted by a later index", []job.Job{needs(0, 5, 3, 1), needs(1, 5, 2, 1)}, "[0 0 0 1 1] [{1 3} {1 5}] []"},
		{"preempted by an earlier index", []job.Job{needs(1, 5, 2, 1), needs(0, 5, 3, 1)}, "[1 0 0 1 1] [{1 3} {1 5}] []"},
		{"a gap", []job.Job{needs(3, 5, 1, 1), needs(0, 2, 1, 1)}, "[1 -1 -1 0 -1] [{1 4} {1 1}] []"},
	} {
		runIs(t, test.label, even, test.l, test.want)
		// Hard does not matter, nor what they are worth, while no alarm rings.
		for i := range test.l {
			test.l[i].Hard, test.l[i].Value = i == 1, 1000*i
		}
		runIs(t, test.label+", the second hard", even, test.l, test.want)
	}
}

func TestAlarms(t *testing.T) {
	for _, test := range []struct {
		label string
		l     []job.Job
		want  string
	}{
		// The last tick at which it can start: not a tick before.
		{"at its last tick", []job.Job{needs(0, 5, 5, 1), needs(0, 6, 3, 9)}, "[0 0 0 1 1 1] [{3 3} {1 6}] [1]"},
		{"at once", []job.Job{needs(0, 5, 5, 1), needs(0, 6, 6, 9)}, "[1 1 1 1 1 1] [{3 0} {1 6}] [1]"},
		{"too late already", []job.Job{needs(0, 3, 3, 1), needs(0, 4, 9, 9)}, "[1 1 1 1] [{3 0} {5 4}] [1]"},
		{"never: the other is done", []job.Job{needs(0, 5, 3, 1), needs(0, 6, 3, 9)}, "[0 0 0 1 1 1] [{1 3} {1 6}] []"},
		{"the waiting one is shed", []job.Job{needs(0, 5, 5, 5), needs(0, 6, 3, 9)}, "[0 0 0 0 0 -1] [{1 5} {3 3}] [1]"},
		{"one deadline", []job.Job{needs(0, 4, 3, 1), needs(0, 4, 3, 9)}, "[0 1 1 1] [{3 1} {1 4}] [1]"},
		{"the running one never rings", []job.Job{needs(0, 3, 9, 1), needs(0, 9, 1, 9)}, "[0 0 0 1 -1 -1 -1 -1 -1] [{5 3} {1 4}] []"},
		{"alone, it never rings", []job.Job{needs(0, 3, 9, 1)}, "[0 0 0] [{5 3}] []"},
		// Its charge less what it has run.
		{"what it has run counts", []job.Job{needs(1, 5, 4, 1), needs(0, 7, 4, 9)}, "[1 0 0 0 1 1 1] [{3 4} {1 7}] [1]"},
		{"the charge counts, not the work", []job.Job{needs(0, 4, 4, 1), clip(0, 6, 2, 1, 9, 2)}, "[0 0 1 -1 -1 -1] [{3 2} {1 3}] [1]"},
		{"the budget counts, not the actual", []job.Job{needs(0, 4, 4, 1), clip(0, 6, 3, 1, 9, 0)}, "[0 0 0 1 -1 -1] [{3 3} {1 4}] [1]"},
		{"an overrun is charged no more", []job.Job{needs(0, 3, 3, 1), clip(0, 6, 2, 9, 9, 1)}, "[0 0 0 1 1 1] [{1 3} {2 6}] []"},
		// It must be worth more than twice what is ahead of it.
		{"twice as much", []job.Job{needs(0, 3, 3, 4), needs(0, 3, 3, 8)}, "[0 0 0] [{1 3} {3 0}] [1]"},
		{"more than twice", []job.Job{needs(0, 3, 3, 4), needs(0, 3, 3, 9)}, "[1 1 1] [{3 0} {1 3}] [1]"},
		{"nothing against nothing", []job.Job{needs(0, 3, 3, 0), needs(0, 3, 3, 0)}, "[0 0 0] [{1 3} {3 0}] [1]"},
		{"something against nothing", []job.Job{needs(0, 3, 3, 0), needs(0, 3, 3, 1)}, "[1 1 1] [{3 0} {1 3}] [1]"},
		{"nothing against something", []job.Job{needs(0, 3, 3, 1), needs(0, 3, 3, 0)}, "[0 0 0] [{1 3} {3 0}] [1]"},
		{"the greatest values", []job.Job{needs(0, 3, 3, api.MaxValue/2), needs(0, 3, 3, api.MaxValue)}, "[0 0 0] [{1 3} {3 0}] [1]"},
		{"the greatest values and 1", []job.Job{needs(0, 3, 3, api.MaxValue/2-1), needs(0, 3, 3, api.MaxValue)}, "[1 1 1] [{3 0} {1 3}] [1]"},
		// Several ahead of it.
		{"the sum: twice as much", []job.Job{needs(0, 3, 3, 2), needs(0, 4, 1, 3), needs(0, 5, 5, 10)}, "[0 0 0 1 -1] [{1 3} {1 4} {3 0}] [2]"},
		{"the sum: more than twice", []job.Job{needs(0, 3, 3, 2), needs(0, 4, 1, 3), needs(0, 5, 5, 11)}, "[2 2 2 2 2] [{3 0} {3 0} {1 5}] [2]"},
		{"those behind it count not", []job.Job{needs(0, 3, 3, 2), needs(0, 4, 4, 5), needs(0, 9, 1, 999)}, "[1 1 1 1 2 -1 -1 -1 -1] [{3 0} {1 4} {1 5}] [1]"},
		{"those to come count not", []job.Job{needs(0, 4, 4, 2), needs(0, 5, 5, 5), needs(1, 3, 2, 999)}, "[1 2 2 -1 -1] [{3 0} {3 1} {1 3}] [1 1]"},
		{"those gone count not", []job.Job{needs(0, 1, 1, 999), needs(0, 6, 5, 2), needs(0, 6, 5, 5)}, "[0 2 2 2 2 2] [{1 1} {3 1} {1 6}] [2]"},
		// Again and again, the first in the order first.
		{"each one shed by the next", []job.Job{needs(0, 4, 4, 1), needs(0, 4, 4, 3), needs(0, 4, 4, 7), needs(0, 4, 4, 15)}, "[3 3 3 3] [{3 0} {3 0} {3 0} {1 4}] [1 2 3]"},
		{"each one shed by the first", []job.Job{needs(0, 4, 4, 9), needs(0, 4, 4, 3), needs(0, 4, 4, 7), needs(0, 4, 4, 15)}, "[0 0 0 0] [{1 4} {3 0} {3 0} {3 0}] [1 2 3]"},
		{"by deadline, not by index", []job.Job{needs(0, 6, 6, 7), needs(0, 5, 5, 3), needs(0, 4, 4, 1)}, "[0 0 0 0 0 0] [{1 6} {3 0} {3 0}] [1 0]"},
		{"the last alone", []job.Job{needs(0, 6, 1, 1), needs(0, 7, 2, 1), needs(0, 8, 8, 5)}, "[2 2 2 2 2 2 2 2] [{3 0} {3 0} {1 8}] [2]"},
		{"one after another", []job.Job{needs(0, 6, 6, 3), needs(0, 7, 5, 5), needs(0, 8, 4, 7)}, "[0 0 0 0 2 2 2 2] [{3 4} {3 2} {1 8}] [1 2]"},
		{"a winner that is shed", []job.Job{needs(0, 5, 5, 1), needs(0, 6, 4, 3), needs(0, 9, 5, 9)}, "[0 0 1 1 2 2 2 2 2] [{3 2} {3 4} {1 9}] [1 2]"},
		{"a winner that is preempted", []job.Job{needs(0, 5, 5, 1), needs(0, 6, 4, 3), needs(3, 4, 1, 1)}, "[0 0 1 1 1 1] [{3 2} {1 6} {3 3}] [1 1]"},
		{"a winner that waits anew, and is shed", []job.Job{needs(0, 5, 5, 1), needs(0, 6, 4, 3), needs(3, 4, 1, 2)}, "[0 0 1 2 -1 -1] [{3 2} {3 3} {1 4}] [1 1]"},
	} {
		runIs(t, test.label, even, test.l, test.want)
		// Hard does not matter.
		for i := range test.l {
			test.l[i].Hard = true
		}
		runIs(t, test.label+", all hard", even, test.l, test.want)
		for i := range test.l {
			test.l[i].Hard = i == 0
		}
		runIs(t, test.label+", the first hard", even, test.l, test.want)
	}
}

// TestCleanup: a job that is being cleaned up runs, and expires, but has no alarm and is not weighed.
func TestCleanup(t *testing.T) {
	for _, test := range []struct {
		label string
		l     []job.Job
		want  string
	}{
		{"ahead of a job: no alarm rings", []job.Job{clip(0, 5, 1, 9, 0, 4), needs(0, 6, 5, 9)}, "[0 0 0 0 0 1] [{2 5} {5 6}] []"},
		{"not weighed", []job.Job{clip(0, 5, 1, 9, 99, 4), needs(1, 6, 4, 1), needs(1, 7, 6, 3)}, "[0 0 0 0 0 2 2] [{2 5} {3 1} {5 7}] [2]"},
		{"not shed", []job.Job{clip(0, 5, 1, 9, 0, 2), needs(1, 6, 5, 0), needs(1, 7, 6, 3)}, "[0 0 0 2 2 2 2] [{2 3} {3 1} {5 7}] [2]"},
		{"it has no alarm", []job.Job{needs(1, 2, 1, 0), needs(2, 3, 1, 0), clip(0, 5, 1, 9, 99, 4)}, "[2 0 1 2 2] [{1 2} {1 3} {5 5}] []"},
		{"behind a job: it is not shed", []job.Job{needs(1, 4, 3, 5), clip(0, 5, 1, 2, 99, 3), needs(1, 6, 5, 99)}, "[1 1 1 1 2 2] [{3 1} {2 4} {5 6}] [2]"},
		{"still within its budget: weighed", []job.Job{clip(0, 5, 2, 9, 5, 3), needs(1, 6, 5, 9)}, "[0 0 0 0 0 -1] [{2 5} {3 1}] [1]"},
		{"still within its budget: shed", []job.Job{clip(0, 5, 2, 9, 4, 3), needs(1, 6, 5, 9)}, "[0 1 1 1 1 1] [{3 1} {1 6}] [1]"},
		{"just done with its budget: no longer shed", []job.Job{clip(0, 5, 2, 9, 4, 3), needs(2, 6, 4, 9)}, "[0 0 0 0 0 1] [{2 5} {5 6}] []"},
		{"one that keeps to its budget is not aborted", []job.Job{clip(0, 5, 2, 2, 4, 3), needs(0, 6, 6, 9)}, "[1 1 1 1 1 1] [{3 0} {1 6}] [1]"},
		{"within its budget it has an alarm", []job.Job{needs(0, 3, 3, 1), clip(0, 4, 2, 3, 9, 2)}, "[1 1 1 1] [{3 0} {2 4}] [1]"},
		{"two of them", []job.Job{clip(0, 4, 1, 2, 1, 2), clip(1, 3, 1, 2, 1, 1)}, "[0 1 1 0] [{5 4} {2 3}] []"},
	} {
		runIs(t, test.label, even, test.l, test.want)
	}
}

// TestExpired: at its deadline a job is gone, ahead of any alarm and of who runs.
func TestExpired(t *testing.T) {
	for _, test := range []struct {
		label string
		l     []job.Job
		want  string
	}{
		{"ahead of the alarms", []job.Job{needs(0, 2, 5, 9), needs(0, 6, 4, 1)}, "[0 0 1 1 1 1] [{5 2} {1 6}] []"},
		{"a tick sooner it is weighed", []job.Job{needs(0, 3, 5, 9), needs(0, 6, 4, 1)}, "[0 0 0 -1 -1 -1] [{5 3} {3 2}] [1]"},
		{"of no value to others", []job.Job{needs(0, 2, 9, 999), needs(0, 7, 5, 1), needs(2, 9, 7, 3)}, "[0 0 2 2 2 2 2 2 2] [{5 2} {3 2} {1 9}] [2]"},
		{"several in one tick", []job.Job{clip(0, 3, 1, 2, 1, 3), clip(1, 3, 1, 2, 1, 3), needs(3, 4, 1, 0)}, "[0 0 0 2] [{5 3} {5 3} {1 4}] []"},
		{"at the end, after a winner", []job.Job{clip(0, 3, 1, 2, 1, 3), clip(0, 3, 1, 2, 3, 9)}, "[1 1 1] [{3 0} {5 3}] [1]"},
		{"several at the end", []job.Job{clip(1, 3, 1, 2, 1, 3), clip(0, 3, 1, 2, 1, 9)}, "[1 0 0] [{5 3} {5 3}] []"},
	} {
		runIs(t, test.label, even, test.l, test.want)
	}
}

// TestRules: the factor is 1 and the square root of P / Q.
func TestRules(t *testing.T) {
	for _, test := range []struct {
		r         Rule
		low, high int // the greatest value that is not enough, and the least that is, of a job behind one of value 1000
	}{
		{Rule{1, 1}, 2000, 2001},
		{Rule{7, 7}, 2000, 2001},
		{Rule{1000000, 1000000}, 2000, 2001},
		{Rule{4, 1}, 3000, 3001},
		{Rule{9, 4}, 2500, 2501},
		{Rule{2, 1}, 2414, 2415},
		{Rule{3, 2}, 2224, 2225},
		{Rule{1000000, 999999}, 2000, 2001},
		{Rule{999, 1}, 32606, 32607},
		{Rule{998001, 1}, 1000000, -1}, // 1000 times as much: no value is more
		{Rule{998000, 1}, 999999, 1000000},
		{Rule{1000000, 1}, 1000000, -1},
	} {
		runIs(t, "not enough", test.r, []job.Job{needs(0, 2, 2, 1000), needs(0, 2, 2, test.low)}, "[0 0] [{1 2} {3 0}] [1]")
		if test.high >= 0 {
			runIs(t, "enough", test.r, []job.Job{needs(0, 2, 2, 1000), needs(0, 2, 2, test.high)}, "[1 1] [{3 0} {1 2}] [1]")
		}
	}
}

// TestMost: as many jobs as there may be, of the greatest value, up to the last tick.
func TestMost(t *testing.T) {
	if api.MaxJobs*api.MaxValue > 1000000000 {
		t.Errorf("P19.1: a sum of values may be above 10^9, and must then count as 10^9")
	}
	l := slices.Repeat([]job.Job{needs(0, api.MaxTick, api.MaxWork, api.MaxValue)}, api.MaxJobs)
	o, errno := Run(even, l)
	if errno != api.OK || len(o.Trace) != api.MaxTick || !trace.Good(l, o.Trace) || trace.Value(l, o.Trace) != 10*api.MaxValue {
		t.Errorf("P19.1: of the most jobs: %d, %d ticks, value %d", errno, len(o.Trace), trace.Value(l, o.Trace))
	}
	for i, f := range o.Fates {
		want := api.Fate{Kind: api.Shed, At: api.MaxTick - api.MaxWork}
		if i < 10 {
			want = api.Fate{Kind: api.Met, At: (i + 1) * api.MaxWork}
		}
		// The alarms of the first ten never ring, those of the others all at one tick.
		if f != want || i >= 10 && o.Alarms[i-10] != i {
			t.Errorf("P19.1: of the most jobs: job %d: %v, want %v; alarms %v", i, f, want, o.Alarms)
		}
	}
	if len(o.Alarms) != api.MaxJobs-10 {
		t.Errorf("P19.1: of the most jobs: %d alarms, want %d", len(o.Alarms), api.MaxJobs-10)
	}
	// All of them are shed at once, in favour of the last one, or that one in favour of all.
	for i := range l {
		l[i] = needs(0, api.MaxTick, 1, 0)
	}
	last := &l[api.MaxJobs-1]
	*last = clip(api.MaxTick-api.MaxWork, api.MaxTick, api.MaxWork, api.MaxWork, api.MaxValue, api.MaxClean)
	for i := range l[:api.MaxJobs-1] {
		l[i].Release = api.MaxTick - api.MaxWork
		l[i].Value = 2512 // 199 times that is less than half of the greatest value
	}
	o, _ = Run(even, l)
	if f := o.Fates[api.MaxJobs-1]; f != (api.Fate{Kind: api.Met, At: api.MaxTick}) || !slices.Equal(o.Alarms, []int{api.MaxJobs - 1}) {
		t.Errorf("P19.1: one against the most jobs: %v, alarms %v", f, o.Alarms)
	}
	l[0].Value += 224 // 500112, and with it half of the greatest value is exceeded
	o, _ = Run(even, l)
	if f := o.Fates[api.MaxJobs-1]; f != (api.Fate{Kind: api.Shed, At: api.MaxTick - api.MaxWork}) || trace.Value(l, o.Trace) != 199*2512+224 {
		t.Errorf("P19.1: the most jobs against one: %v, value %d", f, trace.Value(l, o.Trace))
	}
}

// TestArgumentsAreLeftAlone: R4: the jobs stay as they are, with their spare capacity, and all lists are new memory.
func TestArgumentsAreLeftAlone(t *testing.T) {
	jobs := []job.Job{needs(0, 6, 6, 7), clip(0, 5, 5, 6, 3, 2), needs(0, 4, 4, 1), {Name: "spare"}}
	l, kept := jobs[:3], slices.Clone(jobs)
	const want = "[0 0 0 0 0 0] [{1 6} {3 0} {3 0}] [1 0]"

	first, _ := Run(even, l)
	second, _ := Run(even, l)
	spoil := func(list []int) {
		for i := range list[:cap(list)] {
			list[:cap(list)][i] = -7
		}
	}
	spoil(second.Alarms)
	if got := fmt.Sprint(second.Trace, second.Fates); got != "[0 0 0 0 0 0] [{1 6} {3 0} {3 0}]" {
		t.Errorf("R4: the alarms share memory with the other lists: %s", got)
	}
	spoil(second.Trace)
	if got := fmt.Sprint(second.Fates); got != "[{1 6} {3 0} {3 0}]" {
		t.Errorf("R4: the trace shares memory with the outcomes: %s", got)
	}
	for i := range second.Fates[:cap(second.Fates)] {
		second.Fates[:cap(second.Fates)][i] = api.Fate{Kind: 9, At: 9}
	}
	if show(first) != want {
		t.Errorf("R4: two answers share memory: %s, want %s", show(first), want)
	}
	if !slices.Equal(jobs, kept) {
		t.Errorf("R4: the jobs were changed: %+v, want %+v", jobs, kept)
	}
	runIs(t, "the same once more", even, l, want)
	// R5: nothing of an earlier call is kept.
	l[0].Value = 6
	runIs(t, "another value", even, l, "[1 1 1 1 1 -1] [{3 0} {5 5} {3 0}] [1 0]")
	refused(t, "a rule that is not valid, afterwards", Rule{}, l)
	runIs(t, "the same again", even, kept[:3], want)
	if show(first) != want {
		t.Errorf("R4: an answer hangs on the jobs: %s, want %s", show(first), want)
	}
}

// model is a simulation that reads everything anew from the words.
type model struct {
	r      Rule
	l      []job.Job
	trace  []int
	fates  []api.Fate
	alarms []int
}

// ran counts the ticks of a job.
func (m *model) ran(i int) int {
	n := 0
	for _, k := range m.trace {
		if k == i {
			n++
		}
	}
	return n
}

// aborted tells whether a job is being cleaned up.
func (m *model) aborted(i int) bool {
	return m.l[i].Actual > m.l[i].Budget && m.ran(i) >= m.l[i].Budget
}

// live lists the live jobs by index.
func (m *model) live(tick int) []int {
	var list []int
	for i, j := range m.l {
		if j.Release <= tick && m.fates[i].Kind == api.Waits {
			list = append(list, i)
		}
	}
	return list
}

// before tells whether job i is ahead of job k in the order.
func (m *model) before(i, k int) bool {
	a, b := m.l[i], m.l[k]
	return a.Deadline < b.Deadline || a.Deadline == b.Deadline && i < k
}

// ahead lists the live jobs ahead of k that are not aborted.
func (m *model) ahead(k, tick int) []int {
	var list []int
	for _, i := range m.live(tick) {
		if m.before(i, k) && !m.aborted(i) {
			list = append(list, i)
		}
	}
	return list
}

// due finds the first job whose alarm rings.
func (m *model) due(tick int) (int, bool) {
	found, ok := 0, false
	for _, k := range m.live(tick) {
		need := m.l[k].Budget + m.l[k].Clean - m.ran(k)
		rings := !m.aborted(k) && m.l[k].Deadline-tick <= need && len(m.ahead(k, tick)) > 0
		if rings && (!ok || m.before(k, found)) {
			found, ok = k, true
		}
	}
	return found, ok
}

// above compares v with the surd times w in big numbers: v - w with w times the root, both squared.
func (m *model) above(v, w int64) bool {
	if v <= w {
		return false
	}
	left := new(big.Int).Mul(big.NewInt(v-w), big.NewInt(v-w))
	right := new(big.Int).Mul(big.NewInt(w), big.NewInt(w))
	return left.Mul(left, big.NewInt(m.r.Q)).Cmp(right.Mul(right, big.NewInt(m.r.P))) > 0
}

// tick performs the four steps.
func (m *model) tick(tick int) {
	for _, i := range m.live(tick) {
		if m.l[i].Deadline <= tick {
			m.fates[i] = api.Fate{Kind: api.Expired, At: tick}
		}
	}
	for k, ok := m.due(tick); ok; k, ok = m.due(tick) {
		m.alarms = append(m.alarms, k)
		losers, sum := m.ahead(k, tick), int64(0)
		for _, i := range losers {
			sum += int64(m.l[i].Value)
		}
		if !m.above(int64(m.l[k].Value), sum) {
			losers = []int{k}
		}
		for _, i := range losers {
			m.fates[i] = api.Fate{Kind: api.Shed, At: tick}
		}
	}
	runs := -1
	for _, i := range m.live(tick) {
		if runs == -1 || m.before(i, runs) {
			runs = i
		}
	}
	m.trace = append(m.trace, runs)
	if runs == -1 {
		return
	}
	switch j := m.l[runs]; {
	case j.Actual <= j.Budget && m.ran(runs) == j.Actual:
		m.fates[runs] = api.Fate{Kind: api.Met, At: tick + 1}
	case j.Actual > j.Budget && m.ran(runs) == j.Budget+j.Clean:
		m.fates[runs] = api.Fate{Kind: api.Aborted, At: tick + 1}
	}
}

// modelRun is Run of valid arguments.
func modelRun(r Rule, l []job.Job) Out {
	m := &model{r: r, l: l, fates: make([]api.Fate, len(l))}
	end := 0
	for _, j := range l {
		end = max(end, j.Deadline)
	}
	for tick := range end {
		m.tick(tick)
	}
	for i, f := range m.fates {
		if f.Kind == api.Waits {
			m.fates[i] = api.Fate{Kind: api.Expired, At: end}
		}
	}
	return Out{Trace: m.trace, Fates: m.fates, Alarms: m.alarms}
}

// randomJobs are jobs of all kinds, dense enough that alarms ring.
func randomJobs(random *rand.Rand) []job.Job {
	l := make([]job.Job, random.Intn(9))
	room := 2 + random.Intn(14)
	for i := range l {
		release := random.Intn(12)
		l[i] = clip(release, release+1+random.Intn(room), 1+random.Intn(5), 1+random.Intn(6), random.Intn(9)*(1+random.Intn(5)), random.Intn(3))
		l[i].Hard = random.Intn(3) == 0
	}
	return l
}

// randomRule is a valid rule of any size.
func randomRule(random *rand.Rand) Rule {
	q := int64(1 + random.Intn(1<<random.Intn(20)))
	q = min(q, 1000000)
	p := q + int64(random.Intn(int(8*q)))
	return Rule{P: min(p, 1000000), Q: q}
}

func TestRandomJobsAgainstModel(t *testing.T) {
	random := rand.New(rand.NewSource(19))
	kinds := make([]int, api.Expired+1)
	alarms := make([]int, 12)
	for range 10000 {
		r, l := randomRule(random), randomJobs(random)
		kept := slices.Clone(l)
		o, errno := Run(r, l)
		want := modelRun(r, l)
		if show(o) != show(want) || errno != api.OK {
			t.Fatalf("P19.1: Run(%v, %+v): %s, %d, want %s, 0", r, l, show(o), errno, show(want))
		}
		if !slices.Equal(l, kept) {
			t.Fatalf("R4: the jobs were changed: %+v, want %+v", l, kept)
		}
		for _, f := range o.Fates {
			kinds[f.Kind]++
		}
		alarms[min(len(o.Alarms), len(alarms)-1)]++
		scheduleHolds(t, l, o)
		noOverloadHolds(t, l, o)
		if t.Failed() {
			t.Fatalf("the rule %v, the jobs %+v: %s", r, l, show(o))
		}
	}
	// Lest they were all of one kind.
	if kinds[api.Met] < 9000 || kinds[api.Aborted] < 1500 || kinds[api.Shed] < 4000 || kinds[api.Expired] < 1500 || kinds[api.Refused]+kinds[api.Waits] != 0 {
		t.Errorf("the outcomes of random jobs by kind: %v: too few of some", kinds)
	}
	if alarms[0] < 2000 || alarms[1] < 1000 || alarms[2] < 1000 || alarms[3] < 500 || alarms[5] < 20 {
		t.Errorf("of 10000 random lists so many have 0, 1, 2, .. alarms: %v: too few of some", alarms)
	}
}

// scheduleHolds checks T1: the trace is valid, and each job has the one outcome that it tells.
func scheduleHolds(t *testing.T, l []job.Job, o Out) {
	t.Helper()
	if !trace.Good(l, o.Trace) || len(o.Trace) != job.End(l) || len(o.Fates) != len(l) {
		t.Errorf("T1: the trace is not valid, or its length or that of the outcomes is wrong")
	}
	for i, f := range o.Fates {
		at, done := trace.DoneAt(l, o.Trace, i)
		met := trace.MetBy(l, o.Trace, i)
		switch {
		case done && met:
			done = f == api.Fate{Kind: api.Met, At: at}
		case done:
			done = f == api.Fate{Kind: api.Aborted, At: at}
		default:
			done = f.Kind == api.Shed && l[i].Release <= f.At && f.At < l[i].Deadline || f == api.Fate{Kind: api.Expired, At: l[i].Deadline}
		}
		if !done {
			t.Errorf("T1: job %d: the outcome %v is not what the trace tells", i, f)
		}
	}
}

// noOverloadHolds checks the first part of P19.2, if the jobs are not too many.
func noOverloadHolds(t *testing.T, l []job.Job, o Out) {
	t.Helper()
	if !edf.Meets(l) {
		return
	}
	gone := slices.ContainsFunc(o.Fates, func(f api.Fate) bool { return f.Kind == api.Shed || f.Kind == api.Expired })
	if !slices.Equal(o.Trace, edf.Run(l, job.End(l))) || gone || len(o.Alarms) > 0 {
		t.Errorf("P19.2: no overload, but %s", show(o))
	}
}

// TestNoOverload: lists to which jobs are added for as long as all charges can be met, so that they are close to too many.
func TestNoOverload(t *testing.T) {
	random := rand.New(rand.NewSource(191))
	sum := 0
	for range 2000 {
		var l []job.Job
		for range 20 {
			release := random.Intn(30)
			j := clip(release, release+1+random.Intn(20), 1+random.Intn(5), 1+random.Intn(6), random.Intn(99), random.Intn(3))
			j.Hard = random.Intn(3) == 0
			if edf.Meets(append(slices.Clone(l), j)) {
				l = append(l, j)
			}
		}
		sum += len(l)
		r := randomRule(random)
		o, errno := Run(r, l)
		if errno != api.OK {
			t.Errorf("P19.2: errno %d", errno)
		}
		noOverloadHolds(t, l, o)
		if t.Failed() {
			t.Fatalf("the rule %v, the jobs %+v: %s", r, l, show(o))
		}
	}
	if sum < 2000*5 {
		t.Errorf("2000 lists have %d jobs: too few", sum)
	}
}

// bestOf is the greatest value of any valid trace of the jobs, which all keep to their budgets: it tries every one.
func bestOf(l []job.Job, left []int, tick, end int) int {
	if tick == end {
		sum := 0
		for i, n := range left {
			if n == 0 {
				sum += l[i].Value
			}
		}
		return sum
	}
	most := bestOf(l, left, tick+1, end)
	for i, j := range l {
		if left[i] > 0 && j.Release <= tick && tick < j.Deadline {
			left[i]--
			most = max(most, bestOf(l, left, tick+1, end))
			left[i]++
		}
	}
	return most
}

// worthEnough tells in big numbers whether earned, times the square of 1 and the root of P / Q, is at least best.
func worthEnough(r Rule, earned, best int64) bool {
	// Times Q, the square is P + Q and twice the root of P * Q.
	rest := best*r.Q - earned*(r.P+r.Q)
	if rest <= 0 {
		return true
	}
	left := new(big.Int).Mul(big.NewInt(rest), big.NewInt(rest))
	right := new(big.Int).Mul(big.NewInt(2*earned), big.NewInt(2*earned))
	return left.Cmp(right.Mul(right, big.NewInt(r.P*r.Q))) <= 0
}

// TestTwoJobs is the second part of P19.2.
func TestTwoJobs(t *testing.T) {
	random := rand.New(rand.NewSource(192))
	less := 0
	for range 3000 {
		var l []job.Job
		for range 2 {
			release, work := random.Intn(4), 1+random.Intn(4)
			l = append(l, needs(release, release+work+random.Intn(3), work, random.Intn(40)))
		}
		r := randomRule(random)
		o, errno := Run(r, l)
		earned := trace.Value(l, o.Trace)
		best := bestOf(l, []int{l[0].Budget, l[1].Budget}, 0, job.End(l))
		if errno != api.OK || !worthEnough(r, earned, int64(best)) {
			t.Fatalf("P19.2: Run(%v, %+v): %s, %d: it earns %d, another trace %d", r, l, show(o), errno, earned, best)
		}
		if earned < int64(best) {
			less++
		}
	}
	if less < 100 {
		t.Errorf("of 3000 pairs of jobs only %d earn less than they might: too few", less)
	}
}
