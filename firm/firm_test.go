package firm

import (
	"math"
	"math/rand"
	"slices"
	"testing"

	"tocsin/api"
)

// aheads are numbers that May is asked about, from the least to the greatest.
func aheads() []int {
	l := []int{math.MinInt, math.MinInt + 1, -1 << 32, -101, -100, -2, -1}
	for n := range 131 {
		l = append(l, n)
	}
	return append(l, 255, 256, 1<<16, 1<<32, 1<<32+1, 1<<62, math.MaxInt-64, math.MaxInt-1, math.MaxInt)
}

// makes does a New that must do, and checks that the monitor is a fresh one.
func makes(t *testing.T, m, k int) *Monitor {
	t.Helper()
	w, errno := New(m, k)
	if w == nil || errno != api.OK {
		t.Fatalf("P16.1: New(%d, %d): %v, %d", m, k, w, errno)
	}
	holds(t, w, model{m: m, k: k})
	return w
}

// adds does an Add to the monitor and to its model, and checks what it answers.
func adds(t *testing.T, w *Monitor, l *model, met bool) {
	t.Helper()
	want := l.add(met)
	if got := w.Add(met); got != want {
		t.Fatalf("P16.1: %d of %d, Add(%t) as number %d: %t, want %t", l.m, l.k, met, len(l.met)-1, got, want)
	}
}

// model is all elements, read anew as the chapter's words say.
type model struct {
	m, k int
	met  []bool
}

// add adds an element, and tells whether enough of the last k are met.
func (l *model) add(met bool) bool {
	l.met = append(l.met, met)
	return l.good(len(l.met) - 1)
}

// window tells how many of the k elements up to that number are met, and whether there are k.
func (l *model) window(number int) (int, bool) {
	if number+1 < l.k {
		return 0, false
	}
	yes := 0
	for _, met := range l.met[number+1-l.k : number+1] {
		if met {
			yes++
		}
	}
	return yes, true
}

// good tells what Add answers for the element of that number.
func (l *model) good(number int) bool {
	yes, ok := l.window(number)
	return !ok || yes >= l.m
}

// broken tells the numbers of all elements that are not good.
func (l *model) broken() []int {
	numbers := []int{}
	for number := range l.met {
		if !l.good(number) {
			numbers = append(numbers, number)
		}
	}
	return numbers
}

// worst tells the fewest met in any window.
func (l *model) worst() (int, bool) {
	fewest, any := 0, false
	for number := range l.met {
		yes, ok := l.window(number)
		if ok && (!any || yes < fewest) {
			fewest, any = yes, true
		}
	}
	return fewest, any
}

// may tells whether that many more that are not met would all be good.
func (l *model) may(n int) bool {
	next := model{l.m, l.k, slices.Clone(l.met)}
	for range min(max(n, 0), 100) {
		if !next.add(false) {
			return false
		}
	}
	return true
}

// holds checks that the monitor is what the model is, in all that it tells.
func holds(t *testing.T, w *Monitor, l model) {
	t.Helper()
	if got, want := w.Broken(), l.broken(); !slices.Equal(got, want) {
		t.Fatalf("P16.1: %d of %d, %v: Broken: %v, want %v", l.m, l.k, l.met, got, want)
	}
	yes, ok := l.worst()
	if got, any := w.Worst(); got != yes || any != ok {
		t.Fatalf("P16.1: %d of %d, %v: Worst: %d, %t, want %d, %t", l.m, l.k, l.met, got, any, yes, ok)
	}
	for _, n := range []int{-1, 0, 1, 2, l.k - l.m - 1, l.k - l.m, l.k - l.m + 1, l.k - 1, l.k, l.k + 1, 100, 101} {
		mays(t, w, l, n)
	}
}

// mays checks what May answers for that number.
func mays(t *testing.T, w *Monitor, l model, n int) {
	t.Helper()
	if got, want := w.May(n), l.may(n); got != want {
		t.Fatalf("P16.1: %d of %d, %v: May(%d): %t, want %t", l.m, l.k, l.met, n, got, want)
	}
}

func TestNew(t *testing.T) {
	for k := 1; k <= api.MaxRing; k++ {
		for m := range k + 1 {
			makes(t, m, k)
		}
		for _, m := range []int{math.MinInt, -k, -1, k + 1, k + 2, api.MaxRing + 1, 1 << 32, math.MaxInt} {
			refuses(t, m, k)
		}
	}
	for _, k := range []int{math.MinInt, -api.MaxRing, -1, 0, api.MaxRing + 1, api.MaxRing + 2, 1<<32 + 1, math.MaxInt} {
		for _, m := range []int{math.MinInt, -1, 0, 1, k - 1, k, k + 1, math.MaxInt} {
			refuses(t, m, k)
		}
	}
}

// refuses checks that there is no such monitor.
func refuses(t *testing.T, m, k int) {
	t.Helper()
	if w, errno := New(m, k); w != nil || errno != api.EARG {
		t.Errorf("P16.1: New(%d, %d): %v, %d, want nil, EARG", m, k, w, errno)
	}
}

func TestBrokenOfTheExample(t *testing.T) {
	w := makes(t, 1, 2)
	for i, c := range []struct{ met, want bool }{{true, true}, {false, true}, {false, false}} {
		if got := w.Add(c.met); got != c.want {
			t.Errorf("P16.1: Add(%t) as number %d: %t, want %t", c.met, i, got, c.want)
		}
	}
	if got := w.Broken(); !slices.Equal(got, []int{2}) {
		t.Errorf("P16.1: Broken: %v, want 2", got)
	}
	if fewest, ok := w.Worst(); fewest != 0 || !ok {
		t.Errorf("P16.1: Worst: %d, %t, want 0, true", fewest, ok)
	}
}

func TestTableOfMonitors(t *testing.T) {
	// 'x' is met and '.' is not.
	for _, c := range []struct {
		m, k   int
		met    string
		broken []int
		worst  int
		any    bool
		may    int // The most that May is true for, 100 for any number.
	}{
		{0, 1, "", nil, 0, false, 100},
		{0, 1, "x", nil, 1, true, 100},
		{0, 1, "x.", nil, 0, true, 100},
		{1, 1, "", nil, 0, false, 0},
		{1, 1, "x", nil, 1, true, 0},
		{1, 1, ".", []int{0}, 0, true, 0},
		{1, 1, ".x.x", []int{0, 2}, 0, true, 0},
		{1, 2, "", nil, 0, false, 1},
		{1, 2, ".", nil, 0, false, 0},
		{1, 2, "..", []int{1}, 0, true, 0},
		{1, 2, "..x", []int{1}, 0, true, 1},
		{1, 2, "...", []int{1, 2}, 0, true, 0},
		{2, 2, "", nil, 0, false, 1},
		{2, 2, "x", nil, 0, false, 0},
		{2, 2, "xx", nil, 2, true, 0},
		{2, 2, "xx.xx", []int{2, 3}, 1, true, 0},
		{2, 3, "", nil, 0, false, 2},
		{2, 3, ".", nil, 0, false, 1},
		{2, 3, "..", nil, 0, false, 0},
		{2, 3, "x.", nil, 0, false, 0},
		{2, 3, "..x", []int{2}, 1, true, 0},
		{2, 3, "..xx", []int{2}, 1, true, 1},
		{2, 3, "..xxx", []int{2}, 1, true, 1},
		{2, 3, "xx.xx.xx.", nil, 2, true, 0},
		{2, 4, "x..x", nil, 2, true, 0},
		{2, 4, "..xx", nil, 2, true, 2},
		{2, 4, "x.xx.xx", nil, 2, true, 2},
		{2, 4, "xx.x", nil, 3, true, 1},
		{0, 3, "......", nil, 0, true, 100},
		{0, 3, "xxx...", nil, 0, true, 100},
		{3, 3, "xxxx", nil, 3, true, 0},
	} {
		w, _ := New(c.m, c.k)
		for _, r := range c.met {
			w.Add(r == 'x')
		}
		if got := w.Broken(); !slices.Equal(got, c.broken) {
			t.Errorf("P16.1: %d of %d, %q: Broken: %v, want %v", c.m, c.k, c.met, got, c.broken)
		}
		if fewest, any := w.Worst(); fewest != c.worst || any != c.any {
			t.Errorf("P16.1: %d of %d, %q: Worst: %d, %t, want %d, %t", c.m, c.k, c.met, fewest, any, c.worst, c.any)
		}
		for _, n := range aheads() {
			if got, want := w.May(n), c.may == 100 || n <= c.may; got != want {
				t.Errorf("P16.1: %d of %d, %q: May(%d): %t, want %t", c.m, c.k, c.met, n, got, want)
			}
		}
	}
}

func TestEverySmallMonitor(t *testing.T) {
	for k := 1; k <= 5; k++ {
		for m := range k + 1 {
			for word := range 1 << 9 {
				w, errno := New(m, k)
				if errno != api.OK {
					t.Fatalf("P16.1: New(%d, %d): %d", m, k, errno)
				}
				l := model{m: m, k: k}
				for bit := range 9 {
					adds(t, w, &l, word>>bit&1 == 1)
				}
				holds(t, w, l)
			}
		}
	}
}

func TestEachWindow(t *testing.T) {
	// All met, then so many missed in a row, then all met: at the ends of each window.
	for k := 1; k <= api.MaxRing; k++ {
		for _, m := range []int{0, 1, k / 2, k - 1, k} {
			for _, missed := range []int{k - m, k - m + 1, k} {
				w, l := makes(t, m, k), model{m: m, k: k}
				for range k {
					adds(t, w, &l, true)
				}
				for range missed {
					adds(t, w, &l, false)
				}
				for range k {
					adds(t, w, &l, true)
				}
				holds(t, w, l)
				if any := len(w.Broken()) > 0; any != (m > 0 && missed > k-m) {
					t.Fatalf("P16.1: %d of %d, %d missed in a row: broken %t", m, k, missed, any)
				}
			}
		}
	}
}

func TestMayOfEachNumber(t *testing.T) {
	for _, k := range []int{1, 2, 3, 7, 8, 31, 32, 33, api.MaxRing - 1, api.MaxRing} {
		for _, m := range []int{0, 1, k / 2, k - 1, k} {
			w, l := makes(t, m, k), model{m: m, k: k}
			for i := range 2*k + 1 {
				// Before the first window, at it and beyond.
				if i == 0 || i == k/2 || i == k-1 || i == k || i == 2*k {
					for _, n := range aheads() {
						mays(t, w, l, n)
					}
				}
				adds(t, w, &l, i%3 != 1)
			}
		}
	}
}

func TestMayOfABrokenMonitor(t *testing.T) {
	// None that is added is none that is refused.
	w, l := makes(t, 2, 2), model{m: 2, k: 2}
	adds(t, w, &l, false)
	adds(t, w, &l, false)
	for _, n := range []int{math.MinInt, -1, 0} {
		if !w.May(n) {
			t.Errorf("P16.1: May(%d) of a broken monitor: false", n)
		}
	}
	if w.May(1) {
		t.Errorf("P16.1: May(1) of a broken monitor: true")
	}
}

func TestAskingChangesNothing(t *testing.T) {
	asked, unasked, l := makes(t, 2, 5), makes(t, 2, 5), model{m: 2, k: 5}
	for i := range 40 {
		for _, n := range aheads() {
			asked.May(n)
		}
		asked.Broken()
		asked.Worst()
		met := i%4 == 0 || i%7 == 0
		adds(t, asked, &l, met)
		if got := unasked.Add(met); got != l.good(i) {
			t.Fatalf("P16.1: Add of number %d without asking: %t", i, got)
		}
		holds(t, asked, l)
		holds(t, unasked, l)
	}
}

func TestMonitorsAreApart(t *testing.T) {
	one, other := makes(t, 1, 2), makes(t, 1, 2)
	l, k := model{m: 1, k: 2}, model{m: 1, k: 2}
	for range 4 {
		adds(t, one, &l, false)
		holds(t, other, k)
	}
	adds(t, other, &k, true)
	adds(t, other, &k, true)
	holds(t, other, k)
	holds(t, one, l)
}

func TestBrokenIsNewMemory(t *testing.T) {
	w, l := makes(t, 1, 1), model{m: 1, k: 1}
	for i := range 70 {
		early := w.Broken()
		spoiled := w.Broken()
		spoiled = spoiled[:cap(spoiled)]
		for k := range spoiled {
			spoiled[k] = -7
		}
		want := l.broken()
		adds(t, w, &l, false)
		holds(t, w, l)
		// An answer is what was so when it was asked.
		if !slices.Equal(early, want) {
			t.Fatalf("R4: Broken of %d elements after a later Add: %v", i, early)
		}
	}
}

func TestManyElements(t *testing.T) {
	w := makes(t, 1, api.MaxRing)
	want := []int{}
	for i := range 100000 {
		// 64 that are not met in a row, at each multiple of 1000.
		met := i%1000 >= api.MaxRing
		if i%1000 == api.MaxRing-1 {
			want = append(want, i)
		}
		if got := w.Add(met); got != (i%1000 != api.MaxRing-1) {
			t.Fatalf("P16.1: Add(%t) as number %d: %t", met, i, got)
		}
	}
	if got := w.Broken(); !slices.Equal(got, want) {
		t.Errorf("P16.1: Broken: %v, want %v", got, want)
	}
	if fewest, ok := w.Worst(); fewest != 0 || !ok {
		t.Errorf("P16.1: Worst: %d, %t, want 0, true", fewest, ok)
	}
}

func TestRandomCallsAgainstModel(t *testing.T) {
	random := rand.New(rand.NewSource(16))
	good, bad, may, mayNot := 0, 0, 0, 0
	for run := range 400 {
		k := 1 + random.Intn(10)
		if run%10 == 0 {
			k = 1 + random.Intn(api.MaxRing)
		}
		m := random.Intn(k + 1)
		w, l := makes(t, m, k), model{m: m, k: k}
		for range random.Intn(3 * k) {
			adds(t, w, &l, random.Intn(4) > 0)
			n := random.Intn(k+3) - 1
			mays(t, w, l, n)
			if l.may(n) {
				may++
			} else {
				mayNot++
			}
		}
		holds(t, w, l)
		bad += len(l.broken())
		good += len(l.met) - len(l.broken())
	}
	if good < 500 || bad < 500 || may < 500 || mayNot < 500 {
		t.Errorf("the random elements are good %d, bad %d; May is true %d, false %d times", good, bad, may, mayNot)
	}
}
