package edf

import (
	"math"
	"math/rand"
	"slices"
	"testing"

	"tocsin/api"
	"tocsin/job"
	"tocsin/trace"
)

// runs is a valid job that needs work ticks and keeps to its budget.
func runs(release, deadline, work int) job.Job {
	return job.Job{Name: "a", Release: release, Deadline: deadline, Budget: work, Actual: work}
}

// clip is a valid job of which budget, actual and clean differ.
func clip(release, deadline, budget, actual, clean int) job.Job {
	return job.Job{Name: "b", Release: release, Deadline: deadline, Budget: budget, Actual: actual, Clean: clean}
}

// notValid are lists of jobs for which job.All is false, by what is wrong in them.
func notValid() map[string][]job.Job {
	return map[string][]job.Job{
		"an empty job":        {{}},
		"a fault in the last": {runs(0, 9, 1), runs(0, 9, 1), runs(0, api.MaxTick+1, 1)},
		"a fault in another":  {{}, runs(0, 9, 1)},
		"too many jobs":       slices.Repeat([]job.Job{runs(0, 9, 1)}, api.MaxJobs+1),
		"no name":             {{Deadline: 9, Budget: 1, Actual: 1}},
		"a negative release":  {runs(-1, 9, 1)},
		"a far release":       {runs(math.MinInt, 9, 1)},
		"no room":             {runs(4, 4, 1)},
		"no work":             {runs(0, 9, 0)},
		"too much work":       {runs(0, 9000, api.MaxWork+1)},
		"too great an actual": {clip(0, 9, 1, math.MaxInt, 0)},
		"too long a cleanup":  {clip(0, 900, 1, 1, api.MaxClean+1)},
	}
}

// slackIs checks Slack for the list, and that Fits says the same of it.
func slackIs(t *testing.T, now int, l []Left, want int) {
	t.Helper()
	if got, ok := Slack(now, l); got != want || !ok {
		t.Errorf("P10.1: Slack(%d, %v): %d, %t, want %d, true", now, l[:min(len(l), 8)], got, ok, want)
	}
	if got := Fits(now, l); got != (want >= 0) {
		t.Errorf("P10.1: Fits(%d, %v): %t, want %t", now, l[:min(len(l), 8)], got, want >= 0)
	}
}

// refused checks that the list is beyond a limit.
func refused(t *testing.T, now int, l []Left) {
	t.Helper()
	if got, ok := Slack(now, l); got != 0 || ok {
		t.Errorf("P10.1: Slack(%d, %v): %d, %t, want 0, false", now, l[:min(len(l), 8)], got, ok)
	}
	if Fits(now, l) {
		t.Errorf("P10.1: Fits(%d, %v): true, want false", now, l[:min(len(l), 8)])
	}
}

func TestFitsAndSlack(t *testing.T) {
	for _, test := range []struct {
		now  int
		l    []Left
		want int
	}{
		{0, []Left{{3, 2}, {4, 2}}, 0}, // the example
		{0, []Left{{4, 2}, {3, 2}}, 0},
		{0, []Left{{3, 2}, {4, 3}}, -1},
		{0, []Left{{4, 3}, {3, 2}}, -1},
		{0, []Left{{3, 2}, {5, 2}}, 1}, // 1 at either
		{0, []Left{{3, 2}, {6, 2}}, 1}, // the first has less
		{0, []Left{{9, 1}}, 8},
		{8, []Left{{9, 1}}, 0},
		{9, []Left{{9, 1}}, -1},
		{9, []Left{{9, 0}}, 0},
		{10, []Left{{9, 0}}, -1}, // late, though nothing is needed
		{30, []Left{{9, 0}, {90, 1}}, -21},
		{-4, []Left{{-1, 3}}, 0},
		{-4, []Left{{-1, 4}}, -1},
		{-4, []Left{{3, 4}}, 3},
		// Equal deadlines have one sum.
		{0, []Left{{5, 2}, {5, 2}}, 1},
		{0, []Left{{5, 2}, {5, 2}, {5, 2}}, -1},
		{0, []Left{{5, 1}, {7, 1}, {5, 4}, {7, 1}}, 0},
		{0, []Left{{5, 1}, {7, 1}, {5, 4}, {7, 2}}, -1},
		// A need below 0 lends nothing to the others.
		{0, []Left{{5, -3}}, 5},
		{0, []Left{{5, -3}, {5, 4}}, 1},
		{0, []Left{{3, -9}, {5, 6}}, -1},
		{0, []Left{{5, 6}, {5, -9}}, -1},
		{0, []Left{{3, -1}, {5, 0}}, 3},
		// The least may stand first, last or between.
		{0, []Left{{2, 2}, {9, 2}, {30, 2}}, 0},
		{0, []Left{{9, 1}, {10, 8}, {30, 2}}, 1},
		{0, []Left{{9, 1}, {20, 1}, {30, 27}}, 1},
	} {
		slackIs(t, test.now, test.l, test.want)
	}
}

func TestFitsAndSlackOfNothing(t *testing.T) {
	for _, now := range []int{-far, -1, 0, 5, far} {
		for _, l := range [][]Left{nil, {}} {
			if got, ok := Slack(now, l); got != 0 || ok || !Fits(now, l) {
				t.Errorf("P10.1: Slack, Fits of nothing at %d: %d, %t, %t, want 0, false, true", now, got, ok, Fits(now, l))
			}
		}
	}
	for _, now := range []int{math.MinInt, -far - 1, far + 1, math.MaxInt} {
		refused(t, now, nil)
		refused(t, now, []Left{})
	}
}

func TestFitsAndSlackAtTheLimits(t *testing.T) {
	slackIs(t, 1000000, []Left{{1000000, 0}}, 0)
	slackIs(t, -1000000, []Left{{1000000, 0}}, 2000000)
	slackIs(t, -1000000, []Left{{1000000, 1000000}}, 1000000)
	slackIs(t, 1000000, []Left{{-1000000, 1000000}}, -3000000)
	slackIs(t, -1000000, []Left{{-1000000, -1000000}}, 0)
	slackIs(t, 0, make([]Left, 1000), 0)
	slackIs(t, 0, slices.Repeat([]Left{{1000000, 1000000}}, 1000), 1000000-1000*1000000)
	slackIs(t, 1000000, slices.Repeat([]Left{{-1000000, 1000000}}, 1000), -2000000-1000*1000000)
	slackIs(t, 0, slices.Repeat([]Left{{1000, 1}}, 1000), 0)
	slackIs(t, 1, slices.Repeat([]Left{{1000, 1}}, 1000), -1)

	refused(t, 0, make([]Left, 1001))
	refused(t, 0, slices.Repeat([]Left{{1000000, 0}}, 1001))
	for _, wrong := range []int{math.MinInt, -1 << 32, -1000001, 1000001, 1 << 32, math.MaxInt} {
		refused(t, wrong, []Left{{5, 1}})
		refused(t, wrong, []Left{{wrong, wrong}})
		refused(t, 0, []Left{{wrong, 1}})
		refused(t, 0, []Left{{5, wrong}})
		refused(t, 0, []Left{{5, 1}, {5, 1}, {wrong, 1}})
		refused(t, 0, []Left{{5, wrong}, {5, 1}, {5, 1}})
		refused(t, 0, []Left{{1, 1}, {5, wrong}, {9, 1}})
	}
}

func TestRunAndMeets(t *testing.T) {
	for _, test := range []struct {
		l     []job.Job
		want  []int
		meets bool
	}{
		{nil, []int{-1, -1}, true},
		{[]job.Job{runs(0, 3, 2)}, []int{0, 0, -1}, true},
		{[]job.Job{runs(2, 4, 2)}, []int{-1, -1, 0, 0, -1}, true},
		{[]job.Job{runs(2, 3, 2)}, []int{-1, -1, 0, 0, -1}, false}, // on after its deadline
		{[]job.Job{runs(0, 1, 3)}, []int{0, 0, 0, -1}, false},
		// The earlier deadline, at each tick.
		{[]job.Job{runs(0, 9, 2), runs(0, 8, 2)}, []int{1, 1, 0, 0, -1}, true},
		{[]job.Job{runs(0, 8, 2), runs(0, 9, 2)}, []int{0, 0, 1, 1, -1}, true},
		{[]job.Job{runs(0, 9, 3), runs(1, 4, 1)}, []int{0, 1, 0, 0, -1}, true},
		{[]job.Job{runs(0, 9, 3), runs(1, 6, 2), runs(2, 4, 1)}, []int{0, 1, 2, 1, 0, 0, -1}, true},
		{[]job.Job{runs(0, 4, 3), runs(1, 6, 2)}, []int{0, 0, 0, 1, 1, -1}, true},
		// Of equal deadlines the least index, even if it is released later.
		{[]job.Job{runs(0, 4, 2), runs(0, 4, 2)}, []int{0, 0, 1, 1, -1}, true},
		{[]job.Job{runs(1, 6, 2), runs(0, 6, 3)}, []int{1, 0, 0, 1, 1, -1}, true},
		{[]job.Job{runs(0, 6, 3), runs(1, 6, 2)}, []int{0, 0, 0, 1, 1, -1}, true},
		// A job past its deadline still goes before a later one, and may make it late.
		{[]job.Job{runs(0, 1, 3), runs(0, 4, 2)}, []int{0, 0, 0, 1, 1, -1}, false},
		{[]job.Job{runs(0, 3, 2), runs(0, 3, 2)}, []int{0, 0, 1, 1, -1}, false},
		// Idle between.
		{[]job.Job{runs(0, 2, 1), runs(3, 5, 2)}, []int{0, -1, -1, 1, 1, -1}, true},
		// Run takes the work, Meets the charge.
		{[]job.Job{clip(0, 5, 3, 1, 2)}, []int{0, -1}, true},
		{[]job.Job{clip(0, 4, 3, 1, 2)}, []int{0, -1}, false},
		{[]job.Job{clip(0, 5, 3, 4, 2)}, []int{0, 0, 0, 0, 0, -1}, true},
		{[]job.Job{clip(0, 4, 3, 4, 2)}, []int{0, 0, 0, 0, 0, -1}, false},
		{[]job.Job{clip(0, 3, 3, 9, 0)}, []int{0, 0, 0, -1}, true},
		{[]job.Job{clip(0, 2, 2, 1, 0), clip(0, 4, 1, 1, 1)}, []int{0, 1, -1}, true},
		{[]job.Job{clip(0, 2, 2, 1, 0), clip(0, 4, 1, 1, 2)}, []int{0, 1, -1}, false},
	} {
		for ticks := range len(test.want) + 1 {
			if got := Run(test.l, ticks); !slices.Equal(got, test.want[:ticks]) {
				t.Errorf("P10.1: Run(%+v, %d): %v, want %v", test.l, ticks, got, test.want[:ticks])
			}
		}
		if got := Meets(test.l); got != test.meets {
			t.Errorf("P10.1: Meets(%+v): %t, want %t", test.l, got, test.meets)
		}
	}
}

func TestRunOfWrongTicks(t *testing.T) {
	l := []job.Job{runs(1, 9, 2)}
	for _, list := range [][]job.Job{nil, {}, l} {
		for _, ticks := range []int{math.MinInt, -1 << 32, -5, -1, 0} {
			if got := Run(list, ticks); len(got) != 0 {
				t.Errorf("P10.1: Run of %d jobs, %d ticks: %v, want nothing", len(list), ticks, got)
			}
		}
		for _, ticks := range []int{api.MaxTick, api.MaxTick + 1, 1 << 32, math.MaxInt} {
			if got := Run(list, ticks); len(got) != api.MaxTick {
				t.Errorf("P10.1: Run of %d jobs, %d ticks: %d ticks, want %d", len(list), ticks, len(got), api.MaxTick)
			}
		}
		if got := Run(list, api.MaxTick-1); len(got) != api.MaxTick-1 {
			t.Errorf("P10.1: Run of %d jobs, one tick less than may be: %d ticks", len(list), len(got))
		}
	}
	want := slices.Concat([]int{-1, 0, 0}, slices.Repeat([]int{-1}, api.MaxTick-3))
	if got := Run(l, math.MaxInt); !slices.Equal(got, want) {
		t.Errorf("P10.1: Run of the most ticks: %v.., want %v..", got[:8], want[:8])
	}
}

func TestListsThatAreNotValid(t *testing.T) {
	for label, l := range notValid() {
		for _, ticks := range []int{-1, 0, 1, 5, api.MaxTick, math.MaxInt} {
			if got := Run(l, ticks); len(got) != 0 {
				t.Errorf("P10.1: %s: Run of %d ticks: %v.., want nothing", label, ticks, got[:1])
			}
		}
		if Meets(l) {
			t.Errorf("P10.1: %s: Meets: true, want false", label)
		}
	}
}

// TestMeetsAtTheLimits: a charge may be more than any budget, and many charges more than there are ticks.
func TestMeetsAtTheLimits(t *testing.T) {
	const most = api.MaxWork + api.MaxClean
	for _, test := range []struct {
		label string
		l     []job.Job
		want  bool
	}{
		{"the greatest charge, just in time", []job.Job{clip(0, most, api.MaxWork, 1, api.MaxClean)}, true},
		{"the greatest charge, a tick too late", []job.Job{clip(0, most-1, api.MaxWork, 1, api.MaxClean)}, false},
		{"the last tick", []job.Job{clip(api.MaxTick-1, api.MaxTick, 1, 1, 0)}, true},
		{"one more than the last tick", []job.Job{clip(api.MaxTick-1, api.MaxTick, 1, 1, 1)}, false},
		{"up to the last tick", []job.Job{clip(api.MaxTick-most, api.MaxTick, api.MaxWork, 1, api.MaxClean)}, true},
		{"and beyond it", []job.Job{clip(api.MaxTick-most+1, api.MaxTick, api.MaxWork, 1, api.MaxClean)}, false},
		{"all ticks", slices.Repeat([]job.Job{runs(0, api.MaxTick, api.MaxTick/api.MaxJobs)}, api.MaxJobs), true},
		{"more than all ticks", append(slices.Repeat([]job.Job{runs(0, api.MaxTick, api.MaxTick/api.MaxJobs)}, api.MaxJobs-1), runs(0, api.MaxTick, api.MaxTick/api.MaxJobs+1)), false},
		{"far more than all ticks", slices.Repeat([]job.Job{runs(0, api.MaxTick, api.MaxWork)}, api.MaxJobs), false},
	} {
		if got := Meets(test.l); got != test.want {
			t.Errorf("P10.1: Meets of %s: %t, want %t", test.label, got, test.want)
		}
	}
}

func TestRunOfMostJobs(t *testing.T) {
	l := slices.Repeat([]job.Job{runs(0, api.MaxTick, api.MaxWork)}, api.MaxJobs)
	x := Run(l, api.MaxTick)
	for tick, i := range x {
		if i != tick/api.MaxWork {
			t.Fatalf("P10.1: Run of most jobs, tick %d: %d, want %d", tick, i, tick/api.MaxWork)
		}
	}
}

// TestArgumentsAreLeftAlone: R4: the lists stay as they are, with their spare capacity, and Run's result is new memory.
func TestArgumentsAreLeftAlone(t *testing.T) {
	whole := []Left{{9, 2}, {3, 1}, {5, -4}, {1, 1}, {0, 7}}
	kept := slices.Clone(whole)
	Fits(0, whole[:3])
	Slack(0, whole[:3])
	if !slices.Equal(whole, kept) {
		t.Errorf("R4: the list was changed: %v, want %v", whole, kept)
	}

	jobs := []job.Job{runs(0, 9, 3), runs(1, 5, 2), runs(0, 9, 9), runs(0, 1, 1)}
	keptJobs := slices.Clone(jobs)
	first := Run(jobs[:2], 6)
	for i := range first[:cap(first)] {
		first[:cap(first)][i] = 55
	}
	Meets(jobs[:2])
	if !slices.Equal(jobs, keptJobs) {
		t.Errorf("R4: the jobs were changed: %v, want %v", jobs, keptJobs)
	}
	if got := Run(jobs[:2], 6); !slices.Equal(got, []int{0, 1, 1, 0, 0, -1}) {
		t.Errorf("R4: Run after its first result was changed: %v", got)
	}
}

// modelSlack is Slack of a list that is not empty, by the words: the sum anew for each element.
func modelSlack(now int, l []Left) int {
	slack := math.MaxInt
	for _, e := range l {
		left := e.Deadline - now
		for _, other := range l {
			if other.Deadline <= e.Deadline && other.Need > 0 {
				left -= other.Need
			}
		}
		slack = min(slack, left)
	}
	return slack
}

func TestRandomListsAgainstModel(t *testing.T) {
	random := rand.New(rand.NewSource(10))
	fit := 0
	for range 20000 {
		l := make([]Left, 1+random.Intn(8))
		for i := range l {
			l[i] = Left{random.Intn(30) - 5, random.Intn(6) - 1}
		}
		now := random.Intn(12) - 8
		want := modelSlack(now, l)
		if want >= 0 {
			fit++
		}
		slackIs(t, now, l, want)
	}
	// Lest the lists were all of one kind.
	if fit < 2000 || fit > 18000 {
		t.Errorf("of 20000 random lists %d fit: too few or too many", fit)
	}
}

// modelRun gives each tick in turn to the best of the jobs that could take it.
func modelRun(l []job.Job, needs []int, ticks int) []int {
	x := make([]int, ticks)
	for tick := range x {
		best := -1
		for i, j := range l {
			if j.Release > tick || trace.Ran(x[:tick], i) == needs[i] {
				continue
			}
			if best < 0 || j.Deadline < l[best].Deadline {
				best = i
			}
		}
		x[tick] = best
	}
	return x
}

// modelMeets is Meets of valid jobs: the earliest deadline first meets all charges if any schedule does, which is so if no stretch of time is asked for more than its length.
func modelMeets(l []job.Job) bool {
	for _, from := range l {
		for _, to := range l {
			asked := 0
			for _, j := range l {
				if j.Release >= from.Release && j.Deadline <= to.Deadline {
					asked += j.Budget + j.Clean
				}
			}
			if asked > max(0, to.Deadline-from.Release) {
				return false
			}
		}
	}
	return true
}

func TestRandomJobsAgainstModel(t *testing.T) {
	random := rand.New(rand.NewSource(11))
	meets := 0
	for range 5000 {
		l := make([]job.Job, random.Intn(7))
		works := make([]int, len(l))
		for i := range l {
			release := random.Intn(15)
			l[i] = clip(release, release+1+random.Intn(20), 1+random.Intn(3), 1+random.Intn(4), random.Intn(3))
			works[i] = l[i].Actual
			if l[i].Actual > l[i].Budget {
				works[i] = l[i].Budget + l[i].Clean
			}
		}
		want := modelRun(l, works, 50)
		if got := Run(l, 50); !slices.Equal(got, want) {
			t.Fatalf("P10.1: Run(%+v, 50): %v, want %v", l, got, want)
		}
		if modelMeets(l) {
			meets++
		}
		if got := Meets(l); got != modelMeets(l) {
			t.Fatalf("P10.1: Meets(%+v): %t, want %t", l, got, modelMeets(l))
		}
	}
	// Lest the lists were all of one kind.
	if meets < 500 || meets > 4500 {
		t.Errorf("of 5000 random lists %d are met: too few or too many", meets)
	}
}
