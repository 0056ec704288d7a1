package clean

import (
	"math"
	"math/rand"
	"testing"

	"tocsin/api"
)

// model is a life as the chapter's words say it, with its stage as a number that each call sets.
type model struct {
	budget, actual, clean, stage, ran, cleaned int
}

// run performs one tick.
func (l *model) run() bool {
	if l.stage >= 2 {
		return false
	}
	if l.stage == 0 {
		l.ran++
		if l.ran == l.actual {
			l.stage = 2
		} else if l.ran == l.budget {
			l.abort()
		}
		return true
	}
	l.cleaned++
	if l.cleaned == l.clean {
		l.stage = 3
	}
	return true
}

// abort sets the stage of a job that is aborted.
func (l *model) abort() api.Errno {
	if l.stage != 0 {
		return api.ENONE
	}
	l.stage = 1
	if l.clean == 0 {
		l.stage = 3
	}
	return api.OK
}

// left counts the ticks to the end, one by one.
func (l model) left() int {
	n := 0
	for l.run() {
		n++
	}
	return n
}

// charge counts the ticks of the same job if it never had enough.
func (l model) charge() int {
	l.actual = math.MaxInt
	return l.left()
}

// makes does a New that must do, and checks that the life is a fresh one.
func makes(t *testing.T, budget, actual, clean int) (*Life, *model) {
	t.Helper()
	x, errno := New(budget, actual, clean)
	if x == nil || errno != api.OK {
		t.Fatalf("P17.1: New(%d, %d, %d): %v, %d", budget, actual, clean, x, errno)
	}
	l := &model{budget: budget, actual: actual, clean: clean}
	holds(t, x, l)
	return x, l
}

// refuses checks that there is no such life.
func refuses(t *testing.T, budget, actual, clean int) {
	t.Helper()
	if x, errno := New(budget, actual, clean); x != nil || errno != api.EARG {
		t.Errorf("P17.1: New(%d, %d, %d): %v, %d, want nil, EARG", budget, actual, clean, x, errno)
	}
}

// runs does a Run of the life and of its model, checks both, and tells what was answered.
func runs(t *testing.T, x *Life, l *model) bool {
	t.Helper()
	want := l.run()
	if got := x.Run(); got != want {
		t.Fatalf("P17.1: Run to %+v: %t, want %t", *l, got, want)
	}
	holds(t, x, l)
	return want
}

// aborts does an Abort of the life and of its model, checks both, and tells what was answered.
func aborts(t *testing.T, x *Life, l *model) api.Errno {
	t.Helper()
	want := l.abort()
	if got := x.Abort(); got != want {
		t.Fatalf("P17.1: Abort to %+v: %d, want %d", *l, got, want)
	}
	holds(t, x, l)
	return want
}

// holds checks that the life is what the model is, in all that it tells.
func holds(t *testing.T, x *Life, l *model) {
	t.Helper()
	if got := x.Stage(); got != l.stage {
		t.Fatalf("P17.1: Stage of %+v: %d", *l, got)
	}
	if got, want := x.Left(), l.left(); got != want {
		t.Fatalf("P17.1: Left of %+v: %d, want %d", *l, got, want)
	}
	if got, want := x.Charge(), l.charge(); got != want {
		t.Fatalf("P17.1: Charge of %+v: %d, want %d", *l, got, want)
	}
	if ran, cleaned := x.Used(); ran != l.ran || cleaned != l.cleaned {
		t.Fatalf("P17.1: Used of %+v: %d, %d", *l, ran, cleaned)
	}
}

// ends runs the life to its end, and some Runs beyond it.
func ends(t *testing.T, x *Life, l *model) {
	t.Helper()
	for range l.left() {
		if !runs(t, x, l) {
			t.Fatalf("P17.1: Run before the end is false, to %+v", *l)
		}
	}
	for range 3 {
		if runs(t, x, l) {
			t.Fatalf("P17.1: Run after the end is true, to %+v", *l)
		}
	}
}

// outside are the numbers that are not from low to high.
func outside(low, high int) []int {
	return []int{math.MinInt, math.MinInt + 1, -1 << 32, -high, low - 2, low - 1, high + 1, high + 2, 1<<32 + 1, math.MaxInt - 1, math.MaxInt}
}

func TestNew(t *testing.T) {
	for _, budget := range []int{1, 2, 500, api.MaxWork - 1, api.MaxWork} {
		for _, actual := range []int{1, 2, 500, api.MaxWork - 1, api.MaxWork} {
			for _, clean := range []int{0, 1, 50, api.MaxClean - 1, api.MaxClean} {
				makes(t, budget, actual, clean)
			}
		}
	}
	for _, bad := range outside(1, api.MaxWork) {
		for _, good := range []int{1, 2, api.MaxWork} {
			for _, clean := range []int{0, 1, api.MaxClean} {
				refuses(t, bad, good, clean)
				refuses(t, good, bad, clean)
				refuses(t, bad, bad, clean)
			}
		}
	}
	for _, bad := range outside(0, api.MaxClean) {
		for _, good := range []int{1, 2, api.MaxWork} {
			refuses(t, good, good, bad)
			refuses(t, 0, good, bad)
			refuses(t, good, api.MaxWork+1, bad)
		}
	}
}

func TestTheExample(t *testing.T) {
	x, _ := makes(t, 2, 3, 1)
	for i, want := range []int{0, 1, 3} {
		if !x.Run() || x.Stage() != want {
			t.Errorf("P17.1: stage after Run %d of the example: %d, want %d", i+1, x.Stage(), want)
		}
	}
	if x.Run() || x.Stage() != 3 {
		t.Errorf("P17.1: a fourth Run of the example is true, or sets the stage: %d", x.Stage())
	}
}

func TestTableOfLives(t *testing.T) {
	// 'r' is a Run that must be true, 'n' one that must be false, 'a' an Abort that must do, 'x' one that is refused.
	for _, c := range []struct {
		budget, actual, clean             int
		calls                             string
		stage, left, charge, ran, cleaned int
	}{
		{3, 2, 1, "", 0, 2, 4, 0, 0},
		{3, 2, 1, "r", 0, 1, 3, 1, 0},
		{3, 2, 1, "rr", 2, 0, 0, 2, 0},
		{3, 2, 1, "rrnx", 2, 0, 0, 2, 0},
		{3, 2, 1, "a", 1, 1, 1, 0, 0},
		{3, 2, 1, "ar", 3, 0, 0, 0, 1},
		{3, 2, 1, "ra", 1, 1, 1, 1, 0},
		{3, 2, 1, "raxrnx", 3, 0, 0, 1, 1},
		{2, 2, 1, "", 0, 2, 3, 0, 0},
		{2, 2, 1, "r", 0, 1, 2, 1, 0},
		{2, 2, 1, "rr", 2, 0, 0, 2, 0},
		{2, 3, 1, "", 0, 3, 3, 0, 0},
		{2, 3, 1, "r", 0, 2, 2, 1, 0},
		{2, 3, 1, "rr", 1, 1, 1, 2, 0},
		{2, 3, 1, "rrx", 1, 1, 1, 2, 0},
		{2, 3, 1, "rrr", 3, 0, 0, 2, 1},
		{2, 3, 1, "rrrnx", 3, 0, 0, 2, 1},
		{2, 3, 3, "rrr", 1, 2, 2, 2, 1},
		{2, 3, 0, "r", 0, 1, 1, 1, 0},
		{2, 3, 0, "rr", 3, 0, 0, 2, 0},
		{2, 3, 0, "rrnx", 3, 0, 0, 2, 0},
		{3, 2, 0, "a", 3, 0, 0, 0, 0},
		{3, 2, 0, "anx", 3, 0, 0, 0, 0},
		{3, 2, 0, "ranx", 3, 0, 0, 1, 0},
		{1, 1, 0, "r", 2, 0, 0, 1, 0},
		{1, 1, 2, "r", 2, 0, 0, 1, 0},
		{1, 2, 0, "", 0, 1, 1, 0, 0},
		{1, 2, 0, "r", 3, 0, 0, 1, 0},
		{1, 2, 2, "", 0, 3, 3, 0, 0},
		{1, 2, 2, "r", 1, 2, 2, 1, 0},
		{9, 9, 5, "rra", 1, 5, 5, 2, 0},
		{9, 9, 5, "rrarrr", 1, 2, 2, 2, 3},
		{9, 9, 2, "rrarrnn", 3, 0, 0, 2, 2},
		// As many ticks of cleanup as the job needs, or as its budget is, do not end it otherwise.
		{9, 3, 4, "arrr", 1, 1, 1, 0, 3},
		{3, 9, 4, "arrr", 1, 1, 1, 0, 3},
		{3, 4, 1, "rrrr", 3, 0, 0, 3, 1},
	} {
		x, errno := New(c.budget, c.actual, c.clean)
		if errno != api.OK {
			t.Fatalf("P17.1: New(%d, %d, %d): %d", c.budget, c.actual, c.clean, errno)
		}
		for at, call := range c.calls {
			if !answers(x, call) {
				t.Errorf("P17.1: %d, %d, %d: call %d of %q", c.budget, c.actual, c.clean, at, c.calls)
			}
		}
		ran, cleaned := x.Used()
		got := [5]int{x.Stage(), x.Left(), x.Charge(), ran, cleaned}
		if want := [5]int{c.stage, c.left, c.charge, c.ran, c.cleaned}; got != want {
			t.Errorf("P17.1: %d, %d, %d, %q: stage, left, charge, ran, cleaned: %v, want %v", c.budget, c.actual, c.clean, c.calls, got, want)
		}
	}
}

// answers does a call, and reports whether it answered what its letter says.
func answers(x *Life, call rune) bool {
	switch call {
	case 'r':
		return x.Run()
	case 'n':
		return !x.Run()
	case 'a':
		return x.Abort() == api.OK
	default:
		return x.Abort() == api.ENONE
	}
}

func TestEverySmallLife(t *testing.T) {
	for budget := 1; budget <= 5; budget++ {
		for actual := 1; actual <= 7; actual++ {
			for clean := range 4 {
				x, l := makes(t, budget, actual, clean)
				ends(t, x, l)
				for after := range budget + clean + 2 {
					abortedAfter(t, budget, actual, clean, after)
				}
			}
		}
	}
}

// abortedAfter checks a whole life with an Abort after so many Runs, and Aborts that are refused from then on.
func abortedAfter(t *testing.T, budget, actual, clean, after int) {
	t.Helper()
	x, l := makes(t, budget, actual, clean)
	for range after {
		runs(t, x, l)
	}
	aborts(t, x, l)
	for range clean + 2 {
		if aborts(t, x, l) != api.ENONE {
			t.Fatalf("P17.1: an Abort after another one does, to %+v", *l)
		}
		runs(t, x, l)
	}
	ends(t, x, l)
	if errno := aborts(t, x, l); errno != api.ENONE {
		t.Fatalf("P17.1: Abort after the end: %d, want ENONE", errno)
	}
}

func TestLivesAtTheLimits(t *testing.T) {
	for _, budget := range []int{1, 2, api.MaxWork - 1, api.MaxWork} {
		for _, actual := range []int{1, 2, api.MaxWork - 1, api.MaxWork} {
			for _, clean := range []int{0, 1, api.MaxClean} {
				x, l := makes(t, budget, actual, clean)
				ends(t, x, l)
				wantStage, wantRan, wantCleaned := 2, actual, 0
				if actual > budget {
					wantStage, wantRan, wantCleaned = 3, budget, clean
				}
				ran, cleaned := x.Used()
				if x.Stage() != wantStage || ran != wantRan || cleaned != wantCleaned {
					t.Errorf("P17.1: New(%d, %d, %d) ends in stage %d with %d and %d ticks", budget, actual, clean, x.Stage(), ran, cleaned)
				}
			}
		}
	}
}

func TestAskingChangesNothing(t *testing.T) {
	asked, l := makes(t, 5, 9, 4)
	unasked, errno := New(5, 9, 4)
	if errno != api.OK {
		t.Fatalf("P17.1: New(5, 9, 4): %d", errno)
	}
	for range 12 {
		for range 3 {
			holds(t, asked, l)
		}
		if asked.Run() != unasked.Run() {
			t.Fatalf("R5: Run is not the same without asking, from %+v", *l)
		}
		l.run()
	}
	holds(t, unasked, l)
}

func TestLivesAreApart(t *testing.T) {
	one, l := makes(t, 3, 4, 2)
	other, k := makes(t, 3, 4, 2)
	runs(t, one, l)
	aborts(t, one, l)
	holds(t, other, k)
	ends(t, other, k)
	holds(t, one, l)
	ends(t, one, l)
	holds(t, other, k)
}

func TestRandomCallsAgainstModel(t *testing.T) {
	random := rand.New(rand.NewSource(17))
	stages := [4]int{}
	for run := range 600 {
		greatest := 12
		if run%20 == 0 {
			greatest = api.MaxClean
		}
		x, l := makes(t, 1+random.Intn(greatest), 1+random.Intn(greatest), random.Intn(greatest+1))
		for range random.Intn(2 * greatest) {
			if random.Intn(2*greatest) == 0 {
				aborts(t, x, l)
			} else {
				runs(t, x, l)
			}
		}
		stages[l.stage]++
		ends(t, x, l)
	}
	for stage, n := range stages {
		if n < 50 {
			t.Errorf("only %d of the random calls lead to stage %d: %v", n, stage, stages)
		}
	}
}
