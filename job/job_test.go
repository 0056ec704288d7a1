package job

import (
	"math"
	"math/rand"
	"slices"
	"strings"
	"testing"

	"tocsin/api"
)

// plain is a valid job, which each case changes in one place.
func plain() Job {
	return Job{Name: "a", Release: 2, Deadline: 9, Budget: 3, Actual: 2, Value: 7, Clean: 1}
}

// with is the plain job after one change.
func with(change func(j *Job)) Job {
	j := plain()
	change(&j)
	return j
}

// due is the plain job with another deadline, which is not held against its release.
func due(deadline int) Job { return with(func(j *Job) { j.Deadline = deadline }) }

// dues is a list of jobs with these deadlines.
func dues(deadlines ...int) []Job {
	var l []Job
	for _, deadline := range deadlines {
		l = append(l, due(deadline))
	}
	return l
}

// isValid checks that j is valid, alone and among others, or that it is not, in all that hangs on it.
func isValid(t *testing.T, j Job, want bool) {
	t.Helper()
	if got := Good(j); got != want {
		t.Errorf("P8.1: Good(%+v): %t, want %t", j, got, want)
	}
	for _, l := range [][]Job{{j}, {j, plain()}, {plain(), j}, {plain(), j, plain()}} {
		if got := All(l); got != want {
			t.Errorf("P8.1: All(%+v): %t, want %t", l, got, want)
		}
		if got := End(l); !want && got != 0 {
			t.Errorf("P8.1: End(%+v): %d, want 0", l, got)
		}
	}
	if charge, work := Charge(j), Work(j); want != (charge > 0) || want != (work > 0) {
		t.Errorf("P8.1: Charge, Work of %+v: %d, %d, with Good %t", j, charge, work, want)
	}
}

func TestGoodOfNames(t *testing.T) {
	cases := []struct {
		name string
		want bool
	}{
		{"a", true},
		{"a9_", true},
		{"é", true},
		{strings.Repeat("a", api.MaxName), true},
		{strings.Repeat("é", api.MaxName), true},
		{strings.Repeat("a", api.MaxName+1), false},
		{"", false},
		{"9", false},
		{"_a", false},
		{"a b", false},
		{"a-b", false},
		{"a\xff", false},
	}
	for _, test := range cases {
		isValid(t, with(func(j *Job) { j.Name = test.name }), test.want)
	}
}

// TestGoodOfNumbers takes each number at its limits, beyond them and far off.
func TestGoodOfNumbers(t *testing.T) {
	cases := []struct {
		label     string
		low, high int
		set       func(j *Job, n int)
	}{
		// The deadline is at its own limit, so that it stands in no release's way but the last one's.
		{"Release", 0, api.MaxTick - 1, func(j *Job, n int) { j.Release, j.Deadline = n, api.MaxTick }},
		{"Release, the deadline behind it", 0, api.MaxTick - 1, func(j *Job, n int) { j.Release, j.Deadline = n, n+1 }},
		{"Deadline, released at 0", 1, api.MaxTick, func(j *Job, n int) { j.Release, j.Deadline = 0, n }},
		{"Deadline, released at 5", 6, api.MaxTick, func(j *Job, n int) { j.Release, j.Deadline = 5, n }},
		{"Deadline, released last", api.MaxTick, api.MaxTick, func(j *Job, n int) { j.Release, j.Deadline = api.MaxTick-1, n }},
		{"Budget", 1, api.MaxWork, func(j *Job, n int) { j.Budget = n }},
		{"Actual", 1, api.MaxWork, func(j *Job, n int) { j.Actual = n }},
		{"Value", 0, api.MaxValue, func(j *Job, n int) { j.Value = n }},
		{"Clean", 0, api.MaxClean, func(j *Job, n int) { j.Clean = n }},
	}
	for _, test := range cases {
		t.Run(test.label, func(t *testing.T) {
			for _, n := range []int{test.low, (test.low + test.high) / 2, test.high} {
				isValid(t, with(func(j *Job) { test.set(j, n) }), true)
			}
			for _, n := range []int{math.MinInt, math.MinInt32, -1 << 20, test.low - 1, test.high + 1, 1 << 32, math.MaxInt} {
				isValid(t, with(func(j *Job) { test.set(j, n) }), false)
			}
		})
	}
}

// TestGoodOfARelease: no deadline can make a release valid that is not, nor one that leaves no tick.
func TestGoodOfARelease(t *testing.T) {
	for _, test := range []struct{ release, deadline int }{
		{-1, 1}, {-1, 0}, {math.MinInt, 5}, {math.MinInt, math.MaxInt},
		{0, 0}, {5, 5}, {5, 4}, {5, 0}, {5, -1},
		{api.MaxTick, api.MaxTick}, {api.MaxTick, api.MaxTick + 1}, {api.MaxTick + 1, api.MaxTick + 2},
		{math.MaxInt, math.MinInt},
	} {
		isValid(t, with(func(j *Job) { j.Release, j.Deadline = test.release, test.deadline }), false)
	}
}

// TestGoodHeedsNothingElse: neither Hard, nor a work that is too much for the time till the deadline, is a fault.
func TestGoodHeedsNothingElse(t *testing.T) {
	isValid(t, plain(), true)
	isValid(t, with(func(j *Job) { j.Hard = true }), true)
	isValid(t, with(func(j *Job) { j.Release, j.Deadline, j.Budget, j.Actual = 0, 1, 1000, 1000 }), true)
	isValid(t, with(func(j *Job) { j.Actual = j.Budget + 1 }), true)
	isValid(t, Job{}, false)
}

func TestAllOfMany(t *testing.T) {
	if !All(nil) || !All([]Job{}) {
		t.Errorf("P8.1: All of no job: false, want true")
	}
	for _, n := range []int{1, 2, api.MaxJobs - 1, api.MaxJobs} {
		if !All(slices.Repeat([]Job{plain()}, n)) {
			t.Errorf("P8.1: All of %d valid jobs: false, want true", n)
		}
		for _, place := range []int{0, n / 2, n - 1} {
			l := slices.Repeat([]Job{plain()}, n)
			l[place].Budget = 0
			if All(l) || End(l) != 0 {
				t.Errorf("P8.1: All, End of %d jobs, number %d of them not valid: %t, %d, want false, 0", n, place, All(l), End(l))
			}
		}
	}
	for _, n := range []int{api.MaxJobs + 1, 5000} {
		l := slices.Repeat([]Job{plain()}, n)
		if All(l) || End(l) != 0 {
			t.Errorf("P8.1: All, End of %d jobs: %t, %d, want false, 0", n, All(l), End(l))
		}
	}
}

func TestChargeWorkRuns(t *testing.T) {
	cases := []struct {
		budget, actual, clean int
		charge, work          int
		runs                  bool
	}{
		{3, 5, 2, 5, 5, false}, // the chapter's example
		{3, 1, 2, 5, 1, true},
		{3, 2, 2, 5, 2, true},
		{3, 3, 2, 5, 3, true},
		{3, 4, 2, 5, 5, false},
		{3, 3, 0, 3, 3, true},
		{3, 4, 0, 3, 3, false},
		{3, 1000, 0, 3, 3, false},
		{1, 1, 0, 1, 1, true},
		{1, 2, 100, 101, 101, false},
		{1, 1000, 100, 101, 101, false},
		{999, 1000, 100, 1099, 1099, false},
		{1000, 1, 100, 1100, 1, true},
		{1000, 1000, 100, 1100, 1000, true},
	}
	for _, test := range cases {
		for _, hard := range []bool{false, true} {
			j := with(func(j *Job) { j.Budget, j.Actual, j.Clean, j.Hard = test.budget, test.actual, test.clean, hard })
			if charge, work, runs := Charge(j), Work(j), Runs(j); charge != test.charge || work != test.work || runs != test.runs {
				t.Errorf("P8.1: Charge, Work, Runs of %+v: %d, %d, %t, want %d, %d, %t", j, charge, work, runs, test.charge, test.work, test.runs)
			}
		}
	}
}

// TestRunsOfAnyJob: Runs asks for no more than the two numbers, so that the job may be one that is not valid.
func TestRunsOfAnyJob(t *testing.T) {
	cases := []struct {
		budget, actual int
		want           bool
	}{
		{0, 0, true},
		{0, 1, false},
		{-1, 0, false},
		{0, -1, true},
		{5000, 4999, true},
		{5000, 5001, false},
		{math.MinInt, math.MaxInt, false},
		{math.MaxInt, math.MinInt, true},
		{math.MinInt, math.MinInt, true},
		{math.MaxInt, math.MaxInt, true},
	}
	for _, test := range cases {
		j := Job{Budget: test.budget, Actual: test.actual}
		if got := Runs(j); got != test.want {
			t.Errorf("P8.1: Runs(%+v): %t, want %t", j, got, test.want)
		}
		if Charge(j) != 0 || Work(j) != 0 {
			t.Errorf("P8.1: Charge, Work of %+v: %d, %d, want 0, 0", j, Charge(j), Work(j))
		}
	}
}

func TestEnd(t *testing.T) {
	cases := []struct {
		deadlines []int
		want      int
	}{
		{nil, 0},
		{[]int{3}, 3},
		{[]int{3, 9, 5}, 9},
		{[]int{9, 3, 5}, 9},
		{[]int{3, 5, 9}, 9},
		{[]int{9, 9}, 9},
		{[]int{3, api.MaxTick}, api.MaxTick},
		{[]int{3, api.MaxTick + 1}, 0},
		{[]int{api.MaxTick, 1}, 0}, // the second one ends before it is released
		{[]int{-5}, 0},
	}
	for _, test := range cases {
		if got := End(dues(test.deadlines...)); got != test.want {
			t.Errorf("P8.1: End of deadlines %v: %d, want %d", test.deadlines, got, test.want)
		}
	}
	most := slices.Repeat(dues(4), api.MaxJobs)
	most[api.MaxJobs-1].Deadline = 6
	if got := End(most); got != 6 {
		t.Errorf("P8.1: End of %d jobs: %d, want 6", api.MaxJobs, got)
	}
}

func TestByDeadline(t *testing.T) {
	cases := []struct {
		deadlines []int
		want      []int
	}{
		{nil, nil},
		{[]int{3}, []int{0}},
		{[]int{3, 9, 5}, []int{0, 2, 1}},
		{[]int{9, 5, 3}, []int{2, 1, 0}},
		{[]int{9, 3, 9, 3, 1}, []int{4, 1, 3, 0, 2}},
		{[]int{3, 3, 3, 3}, []int{0, 1, 2, 3}},
		// From here on the jobs are not valid.
		{[]int{5, -5, 0}, []int{1, 2, 0}},
		{[]int{math.MaxInt, math.MinInt, 0, math.MaxInt, math.MinInt}, []int{1, 4, 2, 0, 3}},
		{[]int{1, math.MinInt}, []int{1, 0}},
		{[]int{math.MaxInt, -2}, []int{1, 0}},
	}
	for _, test := range cases {
		if got := ByDeadline(dues(test.deadlines...)); !slices.Equal(got, test.want) {
			t.Errorf("P8.1: ByDeadline of deadlines %v: %v, want %v", test.deadlines, got, test.want)
		}
	}
	if got := ByDeadline([]Job{{}, {Deadline: -1}}); !slices.Equal(got, []int{1, 0}) {
		t.Errorf("P8.1: ByDeadline of jobs without names: %v, want [1 0]", got)
	}
}

// TestByDeadlineHeedsNothingElse: releases, values and Hard do not stand in the order.
func TestByDeadlineHeedsNothingElse(t *testing.T) {
	l := []Job{
		{Name: "b", Release: 8, Deadline: 9, Value: 1},
		{Name: "a", Release: 1, Deadline: 9, Value: 5, Hard: true},
		{Name: "c", Release: 5, Deadline: 7},
		{Name: "a", Release: 0, Deadline: 9, Budget: -3},
	}
	if got := ByDeadline(l); !slices.Equal(got, []int{2, 0, 1, 3}) {
		t.Errorf("P8.1: ByDeadline: %v, want [2 0 1 3]", got)
	}
}

// TestByDeadlineAgainstPicking orders random lists, longer than MaxJobs too, by picking the least one again and again.
func TestByDeadlineAgainstPicking(t *testing.T) {
	random := rand.New(rand.NewSource(8))
	for range 60 {
		l := make([]Job, random.Intn(2*api.MaxJobs))
		for i := range l {
			l[i].Deadline = random.Intn(1+random.Intn(60)) - 20
		}
		var want []int
		taken := make([]bool, len(l))
		for range l {
			least := -1
			for i := range l {
				if !taken[i] && (least < 0 || l[i].Deadline < l[least].Deadline) {
					least = i
				}
			}
			taken[least] = true
			want = append(want, least)
		}
		if got := ByDeadline(l); !slices.Equal(got, want) {
			t.Fatalf("P8.1: ByDeadline of %v: %v, want %v", l, got, want)
		}
	}
}

// TestListsAreLeftAlone: R4: the argument stays as it is, with its spare capacity, and a result is new memory.
func TestListsAreLeftAlone(t *testing.T) {
	whole := append(dues(9, 3, 5), due(77), due(66))
	kept := slices.Clone(whole)
	l := whole[:3]
	first := ByDeadline(l)
	for i := range first[:cap(first)] {
		first[:cap(first)][i] = -9
	}
	if got := ByDeadline(l); !slices.Equal(got, []int{1, 2, 0}) {
		t.Errorf("R4: ByDeadline after its result was overwritten: %v, want [1 2 0]", got)
	}
	if !All(l) || End(l) != 9 {
		t.Errorf("P8.1: All, End: %t, %d, want true, 9", All(l), End(l))
	}
	if !slices.Equal(whole, kept) {
		t.Errorf("R4: the argument was changed: %v, want %v", whole, kept)
	}
}
