package trace

import (
	"math"
	"math/rand"
	"slices"
	"testing"

	"tocsin/api"
	"tocsin/job"
)

// runs is a valid job that needs work ticks and keeps to its budget.
func runs(release, deadline, work, value int) job.Job {
	return job.Job{Name: "a", Release: release, Deadline: deadline, Budget: work, Actual: work, Value: value}
}

// overruns is a valid job that is aborted after its budget and then cleaned up.
func overruns(release, deadline, budget, clean, value int) job.Job {
	return job.Job{Name: "b", Release: release, Deadline: deadline, Budget: budget, Actual: budget + 1, Value: value, Clean: clean}
}

// three is a list of jobs with the works 2, 3 (aborted) and 1.
func three() []job.Job {
	return []job.Job{runs(0, 5, 2, 10), overruns(1, 8, 2, 1, 20), runs(2, 4, 1, 40)}
}

// idles is a trace of n idle ticks.
func idles(n int) []int { return slices.Repeat([]int{-1}, n) }

// after is a trace that idles for n ticks and then runs the jobs.
func after(n int, jobs ...int) []int { return append(idles(n), jobs...) }

// notValid are lists of jobs for which job.All is false, by what is wrong in them.
func notValid() map[string][]job.Job {
	late := three()
	late[2].Deadline = api.MaxTick + 1
	return map[string][]job.Job{
		"an empty job":        {{}},
		"a fault in the last": late,
		"a fault in another":  append([]job.Job{{}}, three()...),
		"too many jobs":       slices.Repeat([]job.Job{runs(0, 9, 1, 5)}, api.MaxJobs+1),
		"no name":             {{Deadline: 9, Budget: 1, Actual: 1}},
		"a negative release":  {runs(-1, 9, 1, 5)},
		"no work":             {runs(0, 9, 0, 5)},
		"too great a value":   {runs(0, 9, 1, api.MaxValue+1)},
	}
}

// isGood checks Good for the list and the trace.
func isGood(t *testing.T, l []job.Job, x []int, want bool) {
	t.Helper()
	if got := Good(l, x); got != want {
		t.Errorf("P9.1: Good of %d jobs and %d ticks that end in %v: %t, want %t", len(l), len(x), x[max(0, len(x)-8):], got, want)
	}
}

func TestGoodOfOrdinaryTraces(t *testing.T) {
	for _, test := range []struct {
		trace []int
		want  bool
	}{
		{nil, true},
		{[]int{}, true},
		{[]int{-1}, true},
		{[]int{0, 0, 1, 2, 1, 1}, true},
		{[]int{0, 1, 2, 0, 1, 1, -1, -1, -1}, true}, // and it goes on after the last deadline
		{[]int{0}, true},        // no job need be done
		{[]int{0, 0, 0}, false}, // more than its work
		{[]int{0, -1, 0, -1, 0}, false},
		{[]int{0, 1, 1, 1}, true}, // an aborted job's work is its budget and its cleanup
		{[]int{0, 1, 1, 1, 1}, false},
		{[]int{-1, -1, 2, 2}, false},
		{[]int{1}, false}, // before its release
		{[]int{-1, 2}, false},
		{after(2, 2), true},
		{after(3, 2), true},
		{after(4, 2), false}, // after its deadline
		{after(4, 0), true},
		{after(5, 0), false},
		{after(7, 1), true},
		{after(8, 1), false},
		{after(3, 0, 0, 0), false},
		{append(after(8, 1), 0), false},
	} {
		isGood(t, three(), test.trace, test.want)
	}
}

// TestGoodOfWrongIndices: what is neither -1 nor an index of the list, first, last and alone.
func TestGoodOfWrongIndices(t *testing.T) {
	for _, wrong := range []int{math.MinInt, -1 << 32, -3, -2, 3, 4, api.MaxJobs, 1 << 32, math.MaxInt} {
		isGood(t, three(), []int{wrong}, false)
		isGood(t, three(), []int{wrong, -1, -1}, false)
		isGood(t, three(), []int{0, 0, wrong}, false)
		isGood(t, nil, []int{wrong}, false)
	}
	isGood(t, nil, nil, true)
	isGood(t, []job.Job{}, []int{-1, -1}, true)
	isGood(t, nil, []int{0}, false)
	isGood(t, nil, []int{-1, 0}, false)
	most := slices.Repeat([]job.Job{runs(0, 9, 1, 5)}, api.MaxJobs)
	isGood(t, most, []int{api.MaxJobs - 1, 0}, true)
	isGood(t, most, []int{api.MaxJobs - 1, 0, api.MaxJobs - 1}, false)
	isGood(t, most, []int{api.MaxJobs}, false)
}

func TestGoodOfLongTraces(t *testing.T) {
	last := []job.Job{runs(0, api.MaxTick, 1, 5)}
	for _, l := range [][]job.Job{nil, three(), last} {
		isGood(t, l, idles(api.MaxTick-1), true)
		isGood(t, l, idles(api.MaxTick), true)
		isGood(t, l, idles(api.MaxTick+1), false)
		isGood(t, l, idles(5*api.MaxTick), false)
	}
	isGood(t, last, after(api.MaxTick-1, 0), true)
	isGood(t, last, after(api.MaxTick, 0), false)
	isGood(t, last, append([]int{0}, idles(api.MaxTick-1)...), true)
	isGood(t, last, append([]int{0}, idles(api.MaxTick)...), false)
	isGood(t, []job.Job{runs(0, api.MaxTick, api.MaxWork, 5)}, slices.Repeat([]int{0}, api.MaxWork), true)
	isGood(t, []job.Job{runs(0, api.MaxTick, api.MaxWork, 5)}, slices.Repeat([]int{0}, api.MaxWork+1), false)
}

// TestGoodOfWorks: a job may run no longer than its work, which is not its budget, nor its charge, nor what it needs.
func TestGoodOfWorks(t *testing.T) {
	for _, test := range []struct{ budget, actual, clean, work int }{
		{3, 1, 2, 1},
		{3, 3, 2, 3},
		{3, 4, 2, 5},
		{3, 5, 0, 3},
		{3, 900, 2, 5},
		{1, 2, api.MaxClean, 1 + api.MaxClean},
	} {
		l := []job.Job{{Name: "a", Deadline: 500, Budget: test.budget, Actual: test.actual, Clean: test.clean}}
		isGood(t, l, slices.Repeat([]int{0}, test.work), true)
		isGood(t, l, slices.Repeat([]int{0}, test.work+1), false)
		if at, ok := DoneAt(l, slices.Repeat([]int{0}, 500), 0); at != test.work || !ok {
			t.Errorf("P9.1: DoneAt of %+v: %d, %t, want %d, true", l[0], at, ok, test.work)
		}
	}
}

// TestListsThatAreNotValid: nothing is told of a job in them, not even of one that is valid itself.
func TestListsThatAreNotValid(t *testing.T) {
	for label, l := range notValid() {
		for _, x := range [][]int{nil, {-1}, {0, 0, 1, 2}, {0, 1, 2, 0, 1, 1}} {
			isGood(t, l, x, false)
			for i := -1; i <= len(l); i++ {
				if at, ok := DoneAt(l, x, i); at != 0 || ok || MetBy(l, x, i) {
					t.Errorf("P9.1: %s: DoneAt, MetBy of job %d: %d, %t, %t, want 0, false, false", label, i, at, ok, MetBy(l, x, i))
				}
			}
			if got := Value(l, x); got != 0 {
				t.Errorf("P9.1: %s: Value of %v: %d, want 0", label, x, got)
			}
		}
	}
}

func TestRan(t *testing.T) {
	x := []int{0, 1, 0, -1, 7, 0, -1, -5}
	for _, test := range []struct{ i, want int }{
		{0, 3}, {1, 1}, {-1, 2}, {7, 1}, {-5, 1}, {2, 0}, {-2, 0}, {8, 0}, {math.MinInt, 0}, {math.MaxInt, 0},
	} {
		if got := Ran(x, test.i); got != test.want {
			t.Errorf("P9.1: Ran(%v, %d): %d, want %d", x, test.i, got, test.want)
		}
		if got := Ran(nil, test.i); got != 0 {
			t.Errorf("P9.1: Ran(nil, %d): %d, want 0", test.i, got)
		}
	}
	// It is no matter whether such a trace is valid.
	if got := Ran([]int{math.MinInt, math.MaxInt, math.MinInt}, math.MinInt); got != 2 {
		t.Errorf("P9.1: Ran of far numbers: %d, want 2", got)
	}
	if got := Ran(slices.Repeat([]int{4}, 3*api.MaxTick), 4); got != 3*api.MaxTick {
		t.Errorf("P9.1: Ran of a long trace: %d, want %d", got, 3*api.MaxTick)
	}
}

func TestExample(t *testing.T) {
	x := []int{0, 0, -1, 1}
	if Ran(x, 0) != 2 || Busy(x) != 3 {
		t.Errorf("P9.1: Ran, Busy of the example: %d, %d, want 2, 3", Ran(x, 0), Busy(x))
	}
}

func TestDoneAtAndMetBy(t *testing.T) {
	for _, test := range []struct {
		trace   []int
		i, at   int
		ok, met bool
	}{
		{[]int{0, 0}, 0, 2, true, true},
		{[]int{0, 1, 1, 2, 0}, 0, 5, true, true}, // at its deadline
		{[]int{0}, 0, 0, false, false},
		{nil, 0, 0, false, false},
		{idles(9), 0, 0, false, false},
		{[]int{1, 2, 1}, 0, 0, false, false},
		{after(3, 2), 2, 4, true, true}, // at its deadline
		// Aborted: it completes its work, but is not met.
		{after(1, 1, 1, 1), 1, 4, true, false},
		{after(1, 1, 1), 1, 0, false, false},
		// From here on the traces are not valid, but the words are the same: too late, too often, too early, and beside wrong indices.
		{after(4, 0, 0), 0, 6, true, false},
		{after(4, 2), 2, 5, true, false},
		{after(4*api.MaxTick, 2), 2, 4*api.MaxTick + 1, true, false},
		{[]int{0, 0, 0, 0}, 0, 2, true, true},
		{[]int{0, 0, -1, -1, -1, -1, 0}, 0, 2, true, true},
		{[]int{2}, 2, 1, true, true},
		{[]int{9, -4, 2, math.MinInt, math.MaxInt}, 2, 3, true, true},
		// No such job.
		{[]int{3, 3, 3}, 3, 0, false, false},
		{[]int{-1, -1, -1}, -1, 0, false, false},
		{[]int{-2, -2, -2}, -2, 0, false, false},
		{[]int{api.MaxJobs}, api.MaxJobs, 0, false, false},
		{[]int{math.MaxInt, math.MaxInt}, math.MaxInt, 0, false, false},
		{[]int{math.MinInt, math.MinInt}, math.MinInt, 0, false, false},
	} {
		at, ok := DoneAt(three(), test.trace, test.i)
		if at != test.at || ok != test.ok {
			t.Errorf("P9.1: DoneAt of job %d in %d ticks: %d, %t, want %d, %t", test.i, len(test.trace), at, ok, test.at, test.ok)
		}
		if got := MetBy(three(), test.trace, test.i); got != test.met {
			t.Errorf("P9.1: MetBy of job %d in %d ticks: %t, want %t", test.i, len(test.trace), got, test.met)
		}
		if at, ok := DoneAt(nil, test.trace, test.i); at != 0 || ok || MetBy(nil, test.trace, test.i) {
			t.Errorf("P9.1: DoneAt of job %d of no jobs: %d, %t, want 0, false", test.i, at, ok)
		}
	}
}

// TestMetByOfBudgets: a job that needs more than its budget is not met, even if its cleanup ends in time.
func TestMetByOfBudgets(t *testing.T) {
	for actual, want := range map[int]bool{1: true, 2: true, 3: false, 900: false} {
		l := []job.Job{{Name: "a", Deadline: 9, Budget: 2, Actual: actual, Value: 5}}
		x := []int{0, 0}
		value := int64(0)
		if want {
			value = 5
		}
		if MetBy(l, x, 0) != want || Value(l, x) != value {
			t.Errorf("P9.1: MetBy, Value of Budget 2, Actual %d: %t, %d, want %t, %d", actual, MetBy(l, x, 0), Value(l, x), want, value)
		}
	}
}

func TestValue(t *testing.T) {
	for _, test := range []struct {
		trace []int
		want  int64
	}{
		{nil, 0},
		{idles(9), 0},
		{[]int{0}, 0},
		{[]int{0, 0}, 10},
		{[]int{0, 1, 2}, 40},
		{[]int{0, 0, 2}, 50},
		{[]int{0, 0, 2, 1, 1, 1}, 50}, // nothing for the aborted one
		{[]int{-1, 1, 1, 1}, 0},
		{[]int{0, 1, 1, 1, 0, 2}, 10}, // one at its deadline, one too late
		{[]int{0, 1, 1, 1, 2, 0}, 0},
		{[]int{0, 0, 0, 2, 2}, 10 + 40}, // counted once
		{[]int{-2, 3, 2, math.MinInt, math.MaxInt}, 40},
	} {
		if got := Value(three(), test.trace); got != test.want {
			t.Errorf("P9.1: Value of %v: %d, want %d", test.trace, got, test.want)
		}
		if got := Value(nil, test.trace); got != 0 {
			t.Errorf("P9.1: Value of no jobs in %v: %d, want 0", test.trace, got)
		}
	}
}

func TestValueOfMostJobs(t *testing.T) {
	l := slices.Repeat([]job.Job{runs(0, api.MaxTick, 1, api.MaxValue)}, api.MaxJobs)
	var x []int
	for i := range l {
		x = append(x, i)
		if got := Value(l, x); got != int64(i+1)*api.MaxValue {
			t.Fatalf("P9.1: Value of %d jobs met: %d, want %d", i+1, got, int64(i+1)*api.MaxValue)
		}
	}
	isGood(t, l, x, true)
}

func TestBusy(t *testing.T) {
	for _, test := range []struct {
		trace []int
		want  int
	}{
		{nil, 0},
		{[]int{}, 0},
		{[]int{-1}, 0},
		{[]int{0}, 1},
		{[]int{0, -1, 0, 5, -1}, 3},
		{idles(api.MaxTick), 0},
		{after(7, 3), 1},
		{slices.Repeat([]int{2}, 2*api.MaxTick), 2 * api.MaxTick},
		{[]int{-2, math.MinInt, -1, math.MaxInt, 1}, 4}, // all but -1 count, whether there can be such a job or not
	} {
		if got := Busy(test.trace); got != test.want {
			t.Errorf("P9.1: Busy of %d ticks: %d, want %d", len(test.trace), got, test.want)
		}
	}
}

func TestCut(t *testing.T) {
	x := []int{0, 1, -1, -9, 2}
	for _, test := range []struct{ n, want int }{
		{math.MinInt, 0}, {-1 << 32, 0}, {-5, 0}, {-1, 0}, {0, 0}, {1, 1}, {3, 3}, {4, 4}, {5, 5}, {6, 5}, {api.MaxTick + 1, 5}, {1 << 32, 5}, {math.MaxInt, 5},
	} {
		if got := Cut(x, test.n); !slices.Equal(got, x[:test.want]) {
			t.Errorf("P9.1: Cut(%v, %d): %v, want %v", x, test.n, got, x[:test.want])
		}
		if got := Cut(nil, test.n); len(got) != 0 {
			t.Errorf("P9.1: Cut(nil, %d): %v, want nothing", test.n, got)
		}
	}
	// A trace may be longer than any valid one.
	if got := Cut(idles(3*api.MaxTick), 2*api.MaxTick); !slices.Equal(got, idles(2*api.MaxTick)) {
		t.Errorf("P9.1: Cut of a long trace: %d ticks, want %d", len(got), 2*api.MaxTick)
	}
}

func TestSwitches(t *testing.T) {
	for _, test := range []struct {
		trace []int
		want  int
	}{
		{nil, 0},
		{[]int{-1}, 0},
		{[]int{0}, 0}, // the first tick has none before it
		{[]int{3}, 0},
		{[]int{0, 0}, 0},
		{[]int{0, 1}, 1},
		{[]int{1, 0}, 1},
		{[]int{0, 1, 0, 1}, 3},
		{[]int{0, 0, 1, 1, 2, 2}, 2},
		{[]int{-1, 0}, 0},
		{[]int{0, -1}, 0},
		{[]int{0, -1, 1}, 0}, // the idle tick stands between them
		{[]int{0, -1, 0, 1, 1, -1, -1, 2, 3}, 2},
		{idles(9), 0},
		{[]int{0, -2, math.MaxInt, -1, math.MinInt}, 2}, // all but -1 is a job
	} {
		if got := Switches(test.trace); got != test.want {
			t.Errorf("P9.1: Switches of %v: %d, want %d", test.trace, got, test.want)
		}
	}
}

// TestArgumentsAreLeftAlone: R4: the lists stay as they are, with their spare capacity, and Cut's result is new memory.
func TestArgumentsAreLeftAlone(t *testing.T) {
	whole := []int{0, 1, 2, 0, 1, 1, -1, 77, 66}
	x := whole[:7]
	keptTrace := slices.Clone(whole)
	jobs := append(three(), runs(0, 9, 9, 9))
	l := jobs[:3]
	keptJobs := slices.Clone(jobs)

	for _, n := range []int{-1, 0, 1, 3, 6, 7, 8, 99} {
		first := Cut(x, n)
		for i := range first[:cap(first)] {
			first[:cap(first)][i] = 55
		}
	}
	Good(l, x)
	Value(l, x)
	for i := range l {
		DoneAt(l, x, i)
		MetBy(l, x, i)
		Ran(x, i)
	}
	Busy(x)
	Switches(x)
	if !slices.Equal(whole, keptTrace) {
		t.Errorf("R4: the trace was changed: %v, want %v", whole, keptTrace)
	}
	if !slices.Equal(jobs, keptJobs) {
		t.Errorf("R4: the jobs were changed: %v, want %v", jobs, keptJobs)
	}
}

// modelWork is the work of a valid job, by the words of chapter 8.
func modelWork(j job.Job) int {
	if j.Actual <= j.Budget {
		return j.Actual
	}
	return j.Budget + j.Clean
}

// modelTicks is the list of all ticks in which i ran.
func modelTicks(x []int, i int) []int {
	var ticks []int
	for tick := range x {
		if x[tick] == i {
			ticks = append(ticks, tick)
		}
	}
	return ticks
}

// modelGood is Good of valid jobs, job by job instead of tick by tick.
func modelGood(l []job.Job, x []int) bool {
	known := len(modelTicks(x, -1))
	for i, j := range l {
		ticks := modelTicks(x, i)
		known += len(ticks)
		if len(ticks) > modelWork(j) {
			return false
		}
		if len(ticks) > 0 && (ticks[0] < j.Release || ticks[len(ticks)-1] > j.Deadline-1) {
			return false
		}
	}
	return known == len(x)
}

// modelDone is DoneAt of valid jobs.
func modelDone(l []job.Job, x []int, i int) (int, bool) {
	if i < 0 || i >= len(l) {
		return 0, false
	}
	ticks := modelTicks(x, i)
	if len(ticks) < modelWork(l[i]) {
		return 0, false
	}
	return ticks[modelWork(l[i])-1] + 1, true
}

// randomJobs is a list of few short jobs, some of them aborted.
func randomJobs(random *rand.Rand) []job.Job {
	l := make([]job.Job, random.Intn(5))
	for i := range l {
		release := random.Intn(6)
		l[i] = job.Job{
			Name: "a", Release: release, Deadline: release + 1 + random.Intn(12),
			Budget: 1 + random.Intn(3), Actual: 1 + random.Intn(4), Value: 1 << i, Clean: random.Intn(3),
		}
	}
	return l
}

// randomTrace draws from the jobs that may run, so that valid traces are not rare, and now and then from all numbers about.
func randomTrace(random *rand.Rand, l []job.Job) []int {
	x := make([]int, random.Intn(20))
	for tick := range x {
		fit := []int{-1}
		for i, j := range l {
			if j.Release <= tick && tick < j.Deadline && len(modelTicks(x[:tick], i)) < modelWork(j) {
				fit = append(fit, i)
			}
		}
		x[tick] = fit[random.Intn(len(fit))]
		if random.Intn(20) == 0 {
			x[tick] = random.Intn(len(l)+4) - 2
		}
	}
	return x
}

func TestRandomTracesAgainstModel(t *testing.T) {
	random := rand.New(rand.NewSource(9))
	good := 0
	for range 20000 {
		l := randomJobs(random)
		x := randomTrace(random, l)
		want := modelGood(l, x)
		if want {
			good++
		}
		if got := Good(l, x); got != want {
			t.Fatalf("P9.1: Good(%+v, %v): %t, want %t", l, x, got, want)
		}
		sum := int64(0)
		for i := -2; i < len(l)+2; i++ {
			at, ok := modelDone(l, x, i)
			met := ok && at <= l[i].Deadline && l[i].Actual <= l[i].Budget
			if met {
				sum += int64(l[i].Value)
			}
			if gotAt, gotOK := DoneAt(l, x, i); gotAt != at || gotOK != ok {
				t.Fatalf("P9.1: DoneAt(%+v, %v, %d): %d, %t, want %d, %t", l, x, i, gotAt, gotOK, at, ok)
			}
			if got := MetBy(l, x, i); got != met {
				t.Fatalf("P9.1: MetBy(%+v, %v, %d): %t, want %t", l, x, i, got, met)
			}
			if got := Ran(x, i); got != len(modelTicks(x, i)) {
				t.Fatalf("P9.1: Ran(%v, %d): %d, want %d", x, i, got, len(modelTicks(x, i)))
			}
		}
		if got := Value(l, x); got != sum {
			t.Fatalf("P9.1: Value(%+v, %v): %d, want %d", l, x, got, sum)
		}
	}
	// Lest the traces were all of one kind.
	if good < 4000 || good > 16000 {
		t.Errorf("of 20000 random traces %d are valid: too few or too many", good)
	}
}
