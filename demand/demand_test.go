package demand

import (
	"math"
	"math/rand"
	"slices"
	"testing"

	"tocsin/api"
)

// outside are numbers that no field of a task may be, far from its range.
func outside() []int {
	return []int{math.MinInt, math.MinInt + 1, -1 << 32, -1000, -2, -1, 10001, 1 << 32, 1<<32 + 5, math.MaxInt}
}

// notValid are tasks that are not valid, one for each field and each way to be wrong, and some with several faults.
func notValid() []Task {
	l := []Task{
		{}, {0, 1, 0}, {1, 0, 0}, {0, 0, 2},
		{5, 1, 1}, {5, 1, 1001}, {5, 1001, 0}, {5, 1001, 2}, {10001, 1, 0}, {10001, 1, 2},
		{0, 1001, 1}, {-5, -1, -2}, {-5, -1, 0},
	}
	for _, n := range outside() {
		l = append(l, Task{n, 1, 0}, Task{n, 1, 2}, Task{5, n, 0}, Task{5, n, 2}, Task{5, 1, n}, Task{n, n, n})
	}
	return l
}

func TestGood(t *testing.T) {
	for _, task := range []Task{
		{1, 1, 0}, {10000, 1, 0}, {1, 1000, 0}, {10000, 1000, 0},
		{1, 1, 2}, {1, 1, 3}, {1, 1, 999}, {1, 1, 1000},
		{10000, 1000, 1000}, {9999, 999, 999}, {5, 2, 2},
		{1, 1000, 2}, // a need may be greater than its period
	} {
		if !Good(task) {
			t.Errorf("P11.1: Good(%v): false, want true", task)
		}
	}
	for _, task := range notValid() {
		if Good(task) {
			t.Errorf("P11.1: Good(%v): true, want false", task)
		}
	}
}

func TestOf(t *testing.T) {
	for _, test := range []struct {
		task Task
		long int
		want int64
	}{
		{Task{2, 2, 2}, 4, 2}, // the example
		// Whole periods alone count.
		{Task{5, 3, 0}, 0, 0}, {Task{5, 3, 0}, 1, 0}, {Task{5, 3, 0}, 4, 0},
		{Task{5, 3, 0}, 5, 3}, {Task{5, 3, 0}, 9, 3}, {Task{5, 3, 0}, 10, 6}, {Task{5, 3, 0}, 11, 6},
		{Task{1, 1, 0}, 1, 1}, {Task{1, 1000, 0}, 1, 1000}, {Task{1, 7, 0}, 100, 700},
		// So do whole skips: the last job of each is not asked for.
		{Task{2, 3, 2}, 1, 0}, {Task{2, 3, 2}, 2, 3}, {Task{2, 3, 2}, 3, 3}, {Task{2, 3, 2}, 5, 3},
		{Task{2, 3, 2}, 6, 6}, {Task{2, 3, 2}, 8, 6}, {Task{2, 3, 2}, 10, 9},
		{Task{4, 1, 3}, 8, 2}, {Task{4, 1, 3}, 11, 2}, {Task{4, 1, 3}, 12, 2}, {Task{4, 1, 3}, 16, 3}, {Task{4, 1, 3}, 24, 4},
		{Task{1, 1, 1000}, 999, 999}, {Task{1, 1, 1000}, 1000, 999}, {Task{1, 1, 1000}, 1001, 1000},
		{Task{1, 1, 1000}, 2000, 1998}, {Task{1, 1, 999}, 1000, 999},
		{Task{10000, 1000, 0}, 9999, 0}, {Task{10000, 1000, 0}, 10000, 1000}, {Task{10000, 1000, 2}, 20000, 1000},
		// Negative.
		{Task{5, 3, 0}, -1, 0}, {Task{5, 3, 0}, -5, 0}, {Task{5, 3, 2}, -20, 0}, {Task{1, 1, 0}, math.MinInt, 0},
		// More than the longest.
		{Task{1, 1, 0}, 999999, 999999}, {Task{1, 1, 0}, 1000000, 1000000}, {Task{1, 1, 0}, 1000001, 1000000},
		{Task{1, 1000, 0}, 1000000, 1000000000}, {Task{1, 1000, 0}, 1 << 32, 1000000000}, {Task{1, 1000, 0}, math.MaxInt, 1000000000},
		{Task{1, 1000, 2}, math.MaxInt, 500000000}, {Task{3, 2, 0}, math.MaxInt, 666666}, {Task{3, 2, 3}, 1000002, 2 * (333333 - 111111)},
		{Task{10000, 1000, 1000}, math.MaxInt, 100000},
	} {
		if got := Of(test.task, test.long); got != test.want {
			t.Errorf("P11.1: Of(%v, %d): %d, want %d", test.task, test.long, got, test.want)
		}
	}
}

func TestOfTasksThatAreNotValid(t *testing.T) {
	for _, task := range notValid() {
		for _, long := range []int{math.MinInt, -1, 0, 1, 5, 10000, 1000000, math.MaxInt} {
			if got := Of(task, long); got != 0 {
				t.Errorf("P11.1: Of(%v, %d): %d, want 0", task, long, got)
			}
			if got := All([]Task{task}, long); got != 0 {
				t.Errorf("P11.1: All of %v, %d: %d, want 0", task, long, got)
			}
		}
	}
}

func TestAll(t *testing.T) {
	l := []Task{{2, 1, 0}, {3, 2, 2}, {5, 3, 0}}
	for _, test := range []struct {
		l    []Task
		long int
		want int64
	}{
		{nil, 100, 0}, {[]Task{}, 100, 0}, {nil, -1, 0},
		{l, 0, 0}, {l, 1, 0}, {l, 2, 1}, {l, 3, 1 + 2}, {l, 4, 2 + 2}, {l, 5, 2 + 2 + 3}, {l, 6, 3 + 2 + 3},
		{l, 9, 4 + 4 + 3}, {l, 12, 6 + 4 + 6}, {l, 30, 15 + 10 + 18}, {l, -1, 0}, {l, -30, 0}, {l, math.MinInt, 0},
		{l, 1000000, 500000 + 2*(333333-166666) + 600000}, {l, math.MaxInt, 500000 + 2*(333333-166666) + 600000},
		// A task that is not valid adds nothing, wherever it stands.
		{[]Task{{}, {2, 1, 0}}, 8, 4}, {[]Task{{2, 1, 0}, {3, 2, 1}}, 8, 4}, {[]Task{{2, 1, 0}, {-1, 5, 0}, {2, 1, 2}}, 8, 4 + 2},
		// The most tasks, and one more.
		{slices.Repeat([]Task{{2, 1, 0}}, 20), 8, 80}, {slices.Repeat([]Task{{2, 1, 0}}, 21), 8, 0},
		{slices.Repeat([]Task{{1, 1000, 0}}, 20), math.MaxInt, 20000000000},
		{slices.Repeat([]Task{{1, 1000, 0}}, 200), math.MaxInt, 0},
		{append(slices.Repeat([]Task{{}}, 19), Task{2, 1, 0}), 8, 4}, {append(slices.Repeat([]Task{{}}, 20), Task{2, 1, 0}), 8, 0},
	} {
		if got := All(test.l, test.long); got != test.want {
			t.Errorf("P11.1: All of %d tasks %v, %d: %d, want %d", len(test.l), test.l[:min(len(test.l), 3)], test.long, got, test.want)
		}
	}
}

// check checks Frame and Holds of the list.
func check(t *testing.T, l []Task, frame int64, holds bool, errno api.Errno) {
	t.Helper()
	some := l[:min(len(l), 3)]
	if got, e := Frame(l); got != frame || e != errno {
		t.Errorf("P11.1: Frame of %d tasks %v: %d, %v, want %d, %v", len(l), some, got, e, frame, errno)
	}
	if got, e := Holds(l); got != holds || e != errno {
		t.Errorf("P11.1: Holds of %d tasks %v: %t, %v, want %t, %v", len(l), some, got, e, holds, errno)
	}
}

func TestFrameAndHolds(t *testing.T) {
	for _, test := range []struct {
		l     []Task
		frame int64
		holds bool
	}{
		{nil, 1, true}, {[]Task{}, 1, true},
		{[]Task{{1, 1, 0}}, 1, true},
		{[]Task{{7, 7, 0}}, 7, true},
		{[]Task{{7, 8, 0}}, 7, false},
		// Together, whole and to the last tick.
		{[]Task{{4, 1, 0}, {6, 1, 0}}, 12, true},
		{[]Task{{2, 1, 0}, {4, 2, 0}}, 4, true},
		{[]Task{{4, 2, 0}, {2, 1, 0}}, 4, true},
		{[]Task{{2, 1, 0}, {4, 3, 0}}, 4, false},
		{[]Task{{2, 1, 0}, {3, 1, 0}, {6, 1, 0}}, 6, true},
		{[]Task{{2, 1, 0}, {3, 1, 0}, {6, 2, 0}}, 6, false},
		{[]Task{{5, 1, 0}, {5, 2, 0}, {5, 2, 0}}, 5, true},
		{[]Task{{5, 1, 0}, {5, 2, 0}, {5, 3, 0}}, 5, false},
		// The skip is a factor of each task's own period.
		{[]Task{{5, 1, 3}}, 15, true},
		{[]Task{{4, 1, 3}, {6, 1, 0}}, 12, true},
		{[]Task{{4, 1, 0}, {6, 1, 3}}, 36, true},
		{[]Task{{5, 2, 2}, {7, 3, 3}}, 210, true},
		{[]Task{{6, 1, 5}, {10, 1, 3}}, 30, true},
		// The job that is not asked for makes room, but no job may be longer than its period.
		{[]Task{{2, 2, 2}, {4, 2, 0}}, 4, true},
		{[]Task{{2, 2, 2}, {4, 3, 0}}, 4, false},
		{[]Task{{2, 2, 2}, {2, 1, 0}}, 4, false},
		{[]Task{{3, 3, 3}, {9, 3, 0}}, 9, true},
		{[]Task{{3, 3, 3}, {9, 4, 0}}, 9, false},
		// Too much within the first tick alone, within two alone, and within the whole frame alone.
		{[]Task{{1, 2, 2}}, 2, false},
		{[]Task{{2, 3, 2}}, 4, false},
		{[]Task{{32, 29, 0}, {3125, 293, 0}}, 100000, false},
		{[]Task{{32, 29, 0}, {3125, 292, 0}}, 100000, true},
		{[]Task{{313, 235, 0}, {317, 79, 0}}, 99221, false},
		{[]Task{{313, 235, 0}, {317, 78, 0}}, 99221, true},
		// The greatest numbers.
		{[]Task{{1, 1, 1000}}, 1000, true},
		{[]Task{{10000, 1000, 10}}, 100000, true},
		{[]Task{{100, 100, 1000}}, 100000, true},
		{[]Task{{100, 101, 1000}}, 100000, false},
		{slices.Repeat([]Task{{20, 1, 0}}, 20), 20, true},
		{slices.Repeat([]Task{{19, 1, 0}}, 20), 19, false},
		{append(slices.Repeat([]Task{{20, 1, 0}}, 19), Task{20, 2, 0}), 20, false},
		{append(slices.Repeat([]Task{{5000, 1, 20}}, 19), Task{10, 9, 0}), 100000, true},
	} {
		check(t, test.l, test.frame, test.holds, api.OK)
	}
}

func TestFramesThatAreTooGreat(t *testing.T) {
	for _, l := range [][]Task{
		{{10000, 1, 11}},
		{{10000, 1000, 1000}},
		{{9091, 1, 11}},                       // 100001
		{{32, 1, 0}, {3125, 1, 0}, {3, 1, 0}}, // three times the greatest frame
		{{317, 400, 0}, {317, 1, 2}, {5, 1, 0}, {2, 1, 0}, {64, 1, 0}}, // whatever is asked
		{{9973, 1, 0}, {9967, 1, 0}},
		{{9973, 1, 997}, {9967, 1, 991}, {9949, 1, 983}, {9941, 1, 977}, {9931, 1, 971}}, // more than an int64 holds
		append(slices.Repeat([]Task{{1, 1, 0}}, 19), Task{1000, 1, 101}),
	} {
		check(t, l, 0, false, api.ELIMIT)
	}
}

func TestListsThatAreNotValid(t *testing.T) {
	for _, wrong := range notValid() {
		for _, l := range [][]Task{
			{wrong},
			{{2, 1, 0}, {3, 1, 0}, wrong},
			{{2, 1, 0}, wrong, {3, 1, 0}},
			// EARG goes before ELIMIT, and before a demand that is too great.
			{wrong, {10000, 1, 11}},
			{{10000, 1, 11}, wrong},
			{{9973, 1, 0}, {9967, 1, 0}, wrong},
			{{1, 1000, 0}, wrong},
		} {
			check(t, l, 0, false, api.EARG)
		}
	}
	check(t, slices.Repeat([]Task{{100, 1, 0}}, 20), 100, true, api.OK)
	for _, task := range []Task{{100, 1, 0}, {1, 2, 0}, {10000, 1, 11}, {}} {
		check(t, slices.Repeat([]Task{task}, 21), 0, false, api.EARG)
		check(t, slices.Repeat([]Task{task}, 1000), 0, false, api.EARG)
	}
}

// TestArgumentsAreLeftAlone: R4: the list stays as it is, with its spare capacity.
func TestArgumentsAreLeftAlone(t *testing.T) {
	whole := []Task{{6, 1, 2}, {4, 1, 0}, {3, 9, 3}, {}, {2, 1, 1}}
	kept := slices.Clone(whole)
	for n := range whole {
		All(whole[:n], 50)
		Frame(whole[:n])
		Holds(whole[:n])
	}
	if !slices.Equal(whole, kept) {
		t.Errorf("R4: the list was changed: %v, want %v", whole, kept)
	}
}

// modelOf counts the jobs one by one: those that end by long, but not the last of each Skip.
func modelOf(task Task, long int) int64 {
	sum := int64(0)
	for n, end := 1, task.Period; end <= long; n, end = n+1, end+task.Period {
		if task.Skip == 0 || n%task.Skip != 0 {
			sum += int64(task.Need)
		}
	}
	return sum
}

// modelFrame tries one number of ticks after the other.
func modelFrame(l []Task) (int64, api.Errno) {
	for frame := 1; frame <= 100000; frame++ {
		if !slices.ContainsFunc(l, func(task Task) bool { return frame%(task.Period*max(task.Skip, 1)) != 0 }) {
			return int64(frame), api.OK
		}
	}
	return 0, api.ELIMIT
}

// modelHolds lays each job that is asked for at its end, and sums up what is laid.
func modelHolds(l []Task, frame int64) bool {
	ends := make([]int64, frame+1)
	for _, task := range l {
		for n := 1; int64(n*task.Period) <= frame; n++ {
			if task.Skip == 0 || n%task.Skip != 0 {
				ends[n*task.Period] += int64(task.Need)
			}
		}
	}
	sum := int64(0)
	for long, asked := range ends {
		sum += asked
		if sum > int64(long) {
			return false
		}
	}
	return true
}

func TestRandomTasksAgainstModel(t *testing.T) {
	random := rand.New(rand.NewSource(11))
	for range 20000 {
		l := make([]Task, random.Intn(6))
		long := random.Intn(400) - 20
		want := int64(0)
		for i := range l {
			l[i] = Task{1 + random.Intn(30), 1 + random.Intn(1000), random.Intn(7)}
			if l[i].Skip == 1 {
				l[i].Skip = 0
			}
			of := modelOf(l[i], long)
			want += of
			if got := Of(l[i], long); got != of {
				t.Fatalf("P11.1: Of(%v, %d): %d, want %d", l[i], long, got, of)
			}
		}
		if got := All(l, long); got != want {
			t.Fatalf("P11.1: All(%v, %d): %d, want %d", l, long, got, want)
		}
	}
}

func TestRandomListsAgainstModel(t *testing.T) {
	random := rand.New(rand.NewSource(12))
	held, great := 0, 0
	for range 3000 {
		l := make([]Task, 1+random.Intn(4))
		for i := range l {
			// Products of few primes, lest every frame were too great.
			period := 1
			for range 1 + random.Intn(4) {
				period *= []int{2, 3, 5, 6, 7}[random.Intn(5)]
			}
			need := 1 + random.Intn(2*period/len(l)+1)
			l[i] = Task{period, min(need, api.MaxWork), []int{0, 2, 3, 4, 11}[random.Intn(5)]}
		}
		frame, errno := modelFrame(l)
		holds := errno == api.OK && modelHolds(l, frame)
		if holds {
			held++
		}
		if errno != api.OK {
			great++
		}
		check(t, l, frame, holds, errno)
	}
	// Lest the lists were all of one kind.
	if held < 500 || great < 100 || held+great > 2500 {
		t.Errorf("of 3000 random lists %d hold, and %d have too great a frame: too few or too many", held, great)
	}
}
