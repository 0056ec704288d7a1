package ledger

import (
	"math"
	"math/big"
	"math/rand"
	"slices"
	"strings"
	"testing"

	"tocsin/api"
)

// top is the most that may be earned in all, and the most that may be lost in all.
const top = int64(1) << 62

// allNames are the names that the tests write, and one that none writes.
func allNames() []string {
	return []string{"", "a", "aa", "ab", "b", "B", "c", "\x00", "a\x00", "\xff", "é", "\u00ff", "a b", strings.Repeat("n", 1000), "none"}
}

// model keeps rows, and reads all from them anew.
type model []Row

// sums adds up what was earned and lost in the rows that are asked for.
func (m model) sums(asked func(Row) bool) (earned, lost int64) {
	gained, gone := new(big.Int), new(big.Int)
	for _, row := range m {
		switch {
		case !asked(row):
		case row.Value > 0:
			gained.Add(gained, big.NewInt(row.Value))
		default:
			gone.Sub(gone, big.NewInt(row.Value))
		}
	}
	return gained.Int64(), gone.Int64()
}

// best picks the name that earned the most by asking for each name whether another one is ahead of it.
func (m model) best() (string, bool) {
	for _, row := range m {
		own, _ := m.sums(func(r Row) bool { return r.Name == row.Name })
		ahead := slices.ContainsFunc(m, func(other Row) bool {
			sum, _ := m.sums(func(r Row) bool { return r.Name == other.Name })
			return sum > own || sum == own && other.Name < row.Name
		})
		if own > 0 && !ahead {
			return row.Name, true
		}
	}
	return "", false
}

// earns does an Earn, and checks what it answers.
func earns(t *testing.T, g *Ledger, tick int, name string, value int64, want api.Errno) {
	t.Helper()
	if errno := g.Earn(tick, name, value); errno != want {
		t.Fatalf("P14.1: Earn(%d, %q, %d): %d, want %d", tick, name, value, errno, want)
	}
}

// loses does a Lose, and checks what it answers.
func loses(t *testing.T, g *Ledger, tick int, name string, value int64, want api.Errno) {
	t.Helper()
	if errno := g.Lose(tick, name, value); errno != want {
		t.Fatalf("P14.1: Lose(%d, %q, %d): %d, want %d", tick, name, value, errno, want)
	}
}

// holds checks that the ledger is exactly those rows, in all that it tells.
func holds(t *testing.T, g *Ledger, rows ...Row) {
	t.Helper()
	m := model(rows)
	if got := g.Rows(); !slices.Equal(got, rows) {
		t.Fatalf("P14.1: Rows: %v, want %v", got, rows)
	}
	earned, lost := m.sums(func(Row) bool { return true })
	if g.Earned() != earned || g.Lost() != lost {
		t.Fatalf("P14.1: Earned, Lost: %d, %d, want %d, %d", g.Earned(), g.Lost(), earned, lost)
	}
	for _, name := range allNames() {
		earned, lost := m.sums(func(r Row) bool { return r.Name == name })
		if e, l := g.By(name); e != earned || l != lost {
			t.Fatalf("P14.1: By(%q): %d, %d, want %d, %d", name, e, l, earned, lost)
		}
	}
	for _, tick := range ticksAround(rows) {
		earned, lost := m.sums(func(r Row) bool { return r.Tick <= tick })
		if got := g.Till(tick); got != earned-lost {
			t.Fatalf("P14.1: Till(%d): %d, want %d", tick, got, earned-lost)
		}
	}
	want, wantOK := m.best()
	if name, ok := g.Best(); name != want || ok != wantOK {
		t.Fatalf("P14.1: Best: %q, %t, want %q, %t", name, ok, want, wantOK)
	}
}

// ticksAround are the ticks of the rows, the ones beside them, and the least and greatest numbers.
func ticksAround(rows []Row) []int {
	ticks := []int{math.MinInt, -1, 0, 1, math.MaxInt}
	for _, row := range rows {
		ticks = append(ticks, row.Tick-1, row.Tick)
		if row.Tick < math.MaxInt {
			ticks = append(ticks, row.Tick+1)
		}
	}
	return ticks
}

func TestNewIsEmpty(t *testing.T) {
	g := New()
	if g == nil {
		t.Fatal("P14.1: New: nil")
	}
	holds(t, g)
	// Another one has rows of its own.
	other := New()
	earns(t, other, 3, "a", 5, api.OK)
	holds(t, g)
	loses(t, g, 1, "b", 2, api.OK)
	holds(t, g, Row{1, "b", -2})
	holds(t, other, Row{3, "a", 5})
}

func TestTillOfTheExample(t *testing.T) {
	for _, ticks := range [][2]int{{0, 0}, {0, 7}, {4, 4}, {4, 7}, {7, 7}} {
		g := New()
		earns(t, g, ticks[0], "a", 5, api.OK)
		loses(t, g, ticks[1], "a", 3, api.OK)
		if got := g.Till(7); got != 2 {
			t.Errorf("P14.1: Till(7) of the example: %d, want 2", got)
		}
	}
}

func TestRowsAreAppended(t *testing.T) {
	g := New()
	earns(t, g, 0, "b", 4, api.OK)
	holds(t, g, Row{0, "b", 4})
	loses(t, g, 0, "b", 9, api.OK)
	holds(t, g, Row{0, "b", 4}, Row{0, "b", -9})
	// The same row twice, a name that is empty, and values of 0 are rows too.
	earns(t, g, 0, "b", 4, api.OK)
	earns(t, g, 2, "", 3, api.OK)
	earns(t, g, 2, "a", 0, api.OK)
	loses(t, g, 2, "c", 0, api.OK)
	loses(t, g, 2, "", 1, api.OK)
	rows := []Row{{0, "b", 4}, {0, "b", -9}, {0, "b", 4}, {2, "", 3}, {2, "a", 0}, {2, "c", 0}, {2, "", -1}}
	holds(t, g, rows...)
	// A tick that has room for no later one but itself.
	earns(t, g, math.MaxInt, "a", 1, api.OK)
	loses(t, g, math.MaxInt, "a", 1, api.OK)
	holds(t, g, append(rows, Row{math.MaxInt, "a", 1}, Row{math.MaxInt, "a", -1})...)
	earns(t, g, math.MaxInt-1, "a", 1, api.ELATE)
	loses(t, g, math.MaxInt-1, "a", 1, api.ELATE)
}

func TestNamesAreAnyStrings(t *testing.T) {
	g := New()
	rows := []Row{}
	for i, name := range allNames() {
		earns(t, g, i, name, int64(i), api.OK)
		loses(t, g, i, name, int64(2*i), api.OK)
		rows = append(rows, Row{i, name, int64(i)}, Row{i, name, int64(-2 * i)})
	}
	holds(t, g, rows...)
}

func TestErrorsInOrder(t *testing.T) {
	// What is refused is refused by both calls, and leaves the ledger as it is.
	for _, test := range []struct {
		rows  []Row
		tick  int
		value int64
		want  api.Errno
	}{
		{nil, -1, 0, api.EARG}, {nil, -1, 5, api.EARG}, {nil, math.MinInt, 5, api.EARG}, {nil, 0, -1, api.EARG}, {nil, 5, -1, api.EARG}, {nil, 5, -top, api.EARG},
		{nil, 5, math.MinInt64, api.EARG}, {nil, 5, -math.MaxInt64, api.EARG}, {nil, -1, -1, api.EARG}, {nil, -1, math.MaxInt64, api.EARG},
		{nil, 0, top + 1, api.EOVER}, {nil, 0, math.MaxInt64, api.EOVER}, {nil, math.MaxInt, top + 1, api.EOVER},
		// A row with a greater tick, whatever it is worth and whoever it is of.
		{[]Row{{3, "a", 5}}, 2, 1, api.ELATE}, {[]Row{{3, "a", -5}}, 2, 1, api.ELATE}, {[]Row{{3, "z", 0}}, 2, 0, api.ELATE}, {[]Row{{1, "a", 5}}, 0, 1, api.ELATE},
		{[]Row{{1, "a", 1}, {9, "b", 1}}, 5, 1, api.ELATE}, {[]Row{{9, "a", 1}, {9, "b", -1}}, 8, 1, api.ELATE}, {[]Row{{math.MaxInt, "a", 1}}, 0, 1, api.ELATE},
		// EARG is ahead of ELATE and EOVER, and ELATE is ahead of EOVER.
		{[]Row{{3, "a", 5}}, -1, 1, api.EARG}, {[]Row{{3, "a", 5}}, 2, -1, api.EARG}, {[]Row{{3, "a", 5}}, -1, -1, api.EARG}, {[]Row{{3, "a", 5}}, 3, -1, api.EARG},
		{[]Row{{3, "a", top}, {3, "a", -top}}, -1, math.MaxInt64, api.EARG}, {[]Row{{3, "a", top}, {3, "a", -top}}, 2, math.MinInt64, api.EARG},
		{[]Row{{3, "a", top}, {3, "a", -top}}, 2, 1, api.ELATE}, {[]Row{{3, "a", top}, {3, "a", -top}}, 2, math.MaxInt64, api.ELATE}, {[]Row{{3, "a", top}, {3, "a", -top}}, 0, 0, api.ELATE},
		// One too much.
		{[]Row{{3, "a", top}, {3, "a", -top}}, 3, 1, api.EOVER}, {[]Row{{3, "a", top}, {3, "a", -top}}, 4, 1, api.EOVER}, {[]Row{{3, "a", top}, {3, "a", -top}}, 4, math.MaxInt64, api.EOVER},
		{[]Row{{3, "b", 7}, {3, "c", -7}}, 3, top - 6, api.EOVER}, {[]Row{{3, "b", 7}, {3, "c", -7}}, 3, top, api.EOVER}, {[]Row{{3, "b", 7}, {3, "c", -7}}, 3, math.MaxInt64 - 6, api.EOVER},
		{[]Row{{3, "b", 7}, {3, "c", -7}}, 3, math.MaxInt64 - 7, api.EOVER}, {[]Row{{0, "b", top - 1}, {3, "c", 1 - top}}, 3, 2, api.EOVER},
	} {
		g := New()
		writes(t, g, test.rows...)
		earns(t, g, test.tick, "a", test.value, test.want)
		holds(t, g, test.rows...)
		loses(t, g, test.tick, "a", test.value, test.want)
		holds(t, g, test.rows...)
	}
}

// writes writes rows that may be written; one of 0 is earned.
func writes(t *testing.T, g *Ledger, rows ...Row) {
	t.Helper()
	for _, row := range rows {
		if row.Value < 0 {
			loses(t, g, row.Tick, row.Name, -row.Value, api.OK)
		} else {
			earns(t, g, row.Tick, row.Name, row.Value, api.OK)
		}
	}
}

func TestRefusedCallsHoldNothingUp(t *testing.T) {
	g := New()
	earns(t, g, 9, "a", top+1, api.EOVER)
	loses(t, g, 9, "a", -1, api.EARG)
	earns(t, g, 2, "a", 1, api.OK)
	loses(t, g, 9, "b", math.MaxInt64, api.EOVER)
	loses(t, g, 1, "b", 1, api.ELATE)
	loses(t, g, 2, "b", 1, api.OK)
	holds(t, g, Row{2, "a", 1}, Row{2, "b", -1})
}

func TestSumsUpToTheMost(t *testing.T) {
	for _, first := range []int64{0, 1, 5, top / 2, top - 1, top} {
		// What is earned and what is lost do not count against each other.
		g := New()
		earns(t, g, 1, "a", first, api.OK)
		earns(t, g, 2, "b", top-first+1, api.EOVER)
		earns(t, g, 2, "b", top-first, api.OK)
		earns(t, g, 2, "a", 1, api.EOVER)
		earns(t, g, 2, "a", 0, api.OK)
		rows := []Row{{1, "a", first}, {2, "b", top - first}, {2, "a", 0}}
		holds(t, g, rows...)
		loses(t, g, 3, "a", first, api.OK)
		loses(t, g, 4, "c", top-first+1, api.EOVER)
		loses(t, g, 4, "c", top-first, api.OK)
		loses(t, g, 4, "a", 1, api.EOVER)
		earns(t, g, 4, "a", 1, api.EOVER)
		loses(t, g, 4, "a", 0, api.OK)
		holds(t, g, append(rows, Row{3, "a", -first}, Row{4, "c", first - top}, Row{4, "a", 0})...)
	}
	// What is lost first leaves as much to be earned.
	g := New()
	loses(t, g, 0, "a", top, api.OK)
	if got := g.Till(0); got != -top {
		t.Errorf("P14.1: Till(0): %d, want %d", got, -top)
	}
	earns(t, g, 0, "a", top, api.OK)
	holds(t, g, Row{0, "a", -top}, Row{0, "a", top})
}

func TestBest(t *testing.T) {
	for _, test := range []struct {
		rows []Row
		want string
	}{
		{[]Row{{0, "a", 1}}, "a"}, {[]Row{{0, "a", 1}, {0, "b", 2}}, "b"}, {[]Row{{0, "b", 2}, {0, "a", 1}}, "b"},
		// Sums, not single values.
		{[]Row{{0, "a", 3}, {1, "b", 2}, {2, "b", 2}}, "b"}, {[]Row{{0, "b", 2}, {1, "a", 3}, {2, "b", 2}}, "b"},
		// What is lost does not count.
		{[]Row{{0, "a", 3}, {0, "a", -9}, {0, "b", 2}}, "a"}, {[]Row{{0, "a", 3}, {0, "b", -9}}, "a"}, {[]Row{{0, "a", 3}, {0, "b", 2}, {0, "b", -9}}, "a"}, {[]Row{{0, "a", 5}, {0, "a", -5}}, "a"},
		// Of several the least, bytewise, wherever it stands.
		{[]Row{{0, "a", 3}, {0, "b", 3}}, "a"}, {[]Row{{0, "b", 3}, {0, "a", 3}}, "a"}, {[]Row{{0, "b", 3}, {0, "a", 3}, {0, "c", 3}}, "a"}, {[]Row{{0, "c", 3}, {0, "b", 1}, {0, "b", 2}, {0, "a", 2}}, "b"},
		{[]Row{{0, "b", 3}, {0, "B", 3}}, "B"}, {[]Row{{0, "aa", 3}, {0, "b", 3}, {0, "ab", 3}}, "aa"}, {[]Row{{0, "aa", 3}, {0, "a", 3}}, "a"}, {[]Row{{0, "a10", 3}, {0, "a9", 3}}, "a10"},
		{[]Row{{0, "\xff", 3}, {0, "é", 3}}, "é"}, {[]Row{{0, "é", 3}, {0, "z", 3}}, "z"},
		// The empty name is a name.
		{[]Row{{0, "", 3}, {0, "a", 3}}, ""}, {[]Row{{0, "a", 3}, {0, "", 3}}, ""}, {[]Row{{0, "a", 2}, {0, "", 3}}, ""}, {[]Row{{0, "a", 3}, {0, "", 2}}, "a"},
		// A name that earned 0 is less than any that earned.
		{[]Row{{0, "a", 0}, {0, "b", 1}}, "b"}, {[]Row{{0, "", 0}, {0, "b", 1}}, "b"},
		// Great sums.
		{[]Row{{0, "a", top - 1}, {0, "b", 1}}, "a"}, {[]Row{{0, "b", top / 2}, {0, "a", top/2 - 1}, {0, "a", 1}}, "a"}, {[]Row{{0, "a", top/2 - 1}, {0, "b", top / 2}, {0, "b", 1}}, "b"}, {[]Row{{0, "z", top}}, "z"},
	} {
		g := New()
		writes(t, g, test.rows...)
		// Asked more than once: the answer does not hang on the order in which names are gone through.
		for range 20 {
			if name, ok := g.Best(); name != test.want || !ok {
				t.Fatalf("P14.1: Best of %v: %q, %t, want %q, true", test.rows, name, ok, test.want)
			}
		}
	}
	for _, rows := range [][]Row{nil, {{0, "a", 0}}, {{0, "a", -5}}, {{0, "a", 0}, {0, "b", 0}, {1, "b", -7}}, {{0, "", 0}}, {{0, "a", -top}}} {
		g := New()
		writes(t, g, rows...)
		if name, ok := g.Best(); name != "" || ok {
			t.Errorf("P14.1: Best of %v: %q, %t, want none", rows, name, ok)
		}
	}
}

func TestRowsAreNewMemory(t *testing.T) {
	g := New()
	want := []Row{}
	for i := range 20 {
		// At each length, as the capacity is not the same at all of them.
		earns(t, g, i, "a", 1, api.OK)
		want = append(want, Row{i, "a", 1})
		got, other := g.Rows(), g.Rows()
		for k := range got[:cap(got)] {
			got[:cap(got)][k] = Row{7, "x", 100}
		}
		_ = append(got[:len(got):cap(got)], Row{8, "y", 100})
		if !slices.Equal(other, want) {
			t.Fatalf("R4: Rows after an earlier answer was written to: %v, want %v", other, want)
		}
		holds(t, g, want...)
	}
	// An answer is what was so when it was asked.
	before := g.Rows()
	loses(t, g, 30, "b", 5, api.OK)
	if !slices.Equal(before, want) {
		t.Errorf("R4: Rows after a later call: %v, want %v", before, want)
	}
}

func TestRandomCallsAgainstModel(t *testing.T) {
	random := rand.New(rand.NewSource(14))
	seen := map[api.Errno]int{}
	for range 300 {
		g, m := New(), model{}
		names := allNames()[:1+random.Intn(6)]
		tick := 0
		for range 1 + random.Intn(25) {
			at, value := tick+random.Intn(5)-1, randomValue(random)
			row := Row{at, names[random.Intn(len(names))], value}
			call, sign := g.Earn, int64(1)
			if random.Intn(3) == 0 {
				call, sign = g.Lose, -1
			}
			want := m.errno(row, sign)
			if got := call(row.Tick, row.Name, row.Value); got != want {
				t.Fatalf("P14.1: %v times %d after %v: %d, want %d", row, sign, m, got, want)
			}
			if want == api.OK {
				m, tick = append(m, Row{row.Tick, row.Name, sign * row.Value}), row.Tick
			}
			seen[want]++
		}
		holds(t, g, m...)
	}
	for _, errno := range []api.Errno{api.OK, api.EARG, api.ELATE, api.EOVER} {
		if seen[errno] < 50 {
			t.Errorf("the random calls answer %d only %d times", errno, seen[errno])
		}
	}
}

// randomValue is a small, a great or a wrong value.
func randomValue(random *rand.Rand) int64 {
	switch random.Intn(12) {
	case 0:
		return -random.Int63()
	case 1:
		return random.Int63n(top)
	case 2:
		return top - 5 + random.Int63n(10)
	case 3:
		return top / 4
	}
	return random.Int63n(10)
}

// errno is what an Earn or, if sign is -1, a Lose of that row answers.
func (m model) errno(row Row, sign int64) api.Errno {
	if row.Tick < 0 || row.Value < 0 {
		return api.EARG
	}
	if slices.ContainsFunc(m, func(r Row) bool { return r.Tick > row.Tick }) {
		return api.ELATE
	}
	earned, lost := m.sums(func(Row) bool { return true })
	sum := big.NewInt(row.Value)
	if sign > 0 {
		sum.Add(sum, big.NewInt(earned))
	} else {
		sum.Add(sum, big.NewInt(lost))
	}
	if sum.Cmp(big.NewInt(top)) > 0 {
		return api.EOVER
	}
	return api.OK
}
