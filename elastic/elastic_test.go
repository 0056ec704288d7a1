package elastic

import (
	"math"
	"math/big"
	"math/rand"
	"slices"
	"testing"

	"tocsin/api"
)

// most is the greatest share and the greatest room.
const most = 64 * api.One

// two are the springs of the example.
func two() []Spring { return []Spring{{10, 0, 1}, {10, 0, 3}} }

// tooMany is one spring more than there may be, each of them valid.
func tooMany() []Spring { return slices.Repeat([]Spring{{1, 0, 1}}, api.MaxTasks+1) }

// notValid are springs of which one number is out of its range.
func notValid() []Spring {
	return []Spring{
		{-1, 0, 1}, {-1, -1, 1}, {-1, -2, 0}, {most + 1, 0, 1}, {most + 1, most, 1}, {most + 1, most + 1, 0},
		{math.MinInt64, 0, 1}, {math.MinInt64, math.MinInt64, 1}, {math.MaxInt64, 0, 1}, {1 << 32, 0, 1}, {1<<32 + 5, 0, 1},
		{5, -1, 1}, {5, 6, 1}, {0, 1, 1}, {0, -1, 0}, {5, 6, 0}, {5, most, 1}, {most, most + 1, 1}, {5, math.MinInt64, 1}, {5, math.MaxInt64, 0}, {5, 1 << 32, 1},
		{5, 0, -1}, {5, 0, 1001}, {5, 5, 1001}, {0, 0, -1}, {5, 0, math.MinInt64}, {5, 0, math.MaxInt64}, {5, 0, 1 << 32}, {5, 0, 1<<32 + 1},
	}
}

// notRooms are numbers that are no room.
func notRooms() []int64 {
	return []int64{-1, -2, -most, math.MinInt64 + 1, math.MinInt64, most + 1, most + 2, 2 * most, 1 << 32, math.MaxInt64}
}

func TestGood(t *testing.T) {
	for _, s := range []Spring{
		{0, 0, 0}, {0, 0, 1}, {0, 0, 1000}, {1, 0, 0}, {1, 1, 1}, {5, 4, 3}, {5, 5, 5}, {5, 0, 1000}, {5, 0, 999},
		{most, 0, 0}, {most, most, 0}, {most, most, 1000}, {most, most - 1, 1}, {most - 1, most - 1, 1}, {api.One, api.One / 2, 2},
	} {
		if !Good(s) {
			t.Errorf("P13.1: Good(%v): false", s)
		}
	}
	for _, s := range notValid() {
		if Good(s) {
			t.Errorf("P13.1: Good(%v): true", s)
		}
	}
}

func TestPress(t *testing.T) {
	for _, test := range []struct {
		l    []Spring
		room int64
		want []int64
	}{
		{two(), 16, []int64{9, 7}}, // the example
		{nil, 0, nil}, {[]Spring{}, 0, nil}, {nil, 5, nil}, {nil, most, nil},
		// All fit: whatever the Leasts and Softs are.
		{two(), 20, []int64{10, 10}}, {two(), 21, []int64{10, 10}}, {two(), most, []int64{10, 10}},
		{[]Spring{{0, 0, 0}, {0, 0, 7}}, 0, []int64{0, 0}}, {[]Spring{{3, 1, 0}, {4, 4, 2}, {5, 0, 1000}}, 12, []int64{3, 4, 5}},
		{[]Spring{{most, 0, 1}}, most, []int64{most}}, {[]Spring{{most, most, 0}, {0, 0, 0}}, most, []int64{most, 0}},
		// One too much: the parts are rounded down, even if that leaves room.
		{two(), 19, []int64{9, 9}}, {two(), 18, []int64{9, 8}}, {two(), 17, []int64{9, 7}}, {two(), 15, []int64{8, 6}},
		{[]Spring{{10, 0, 1}, {10, 0, 1}}, 19, []int64{9, 9}}, {[]Spring{{10, 0, 1000}, {10, 0, 1}}, 19, []int64{9, 9}},
		{[]Spring{{10, 0, 1}, {10, 0, 1}, {10, 0, 1}}, 29, []int64{9, 9, 9}}, {[]Spring{{10, 0, 1}, {10, 0, 1}, {10, 0, 1}}, 27, []int64{9, 9, 9}},
		{[]Spring{{10, 0, 1}, {10, 0, 2}, {10, 0, 4}}, 23, []int64{9, 8, 6}}, {[]Spring{{10, 0, 7}}, 3, []int64{3}},
		// Only the ratios of the Softs count.
		{[]Spring{{10, 0, 300}, {10, 0, 900}}, 16, []int64{9, 7}}, {[]Spring{{10, 0, 333}, {10, 0, 999}}, 16, []int64{9, 7}},
		// Down to nothing, and not below it.
		{two(), 0, []int64{0, 0}}, {two(), 1, []int64{1, 0}}, {two(), 6, []int64{6, 0}}, {two(), 7, []int64{6, 0}}, {two(), 8, []int64{7, 1}},
		{[]Spring{{0, 0, 9}, {5, 0, 1}}, 3, []int64{0, 3}}, {[]Spring{{1, 0, 1000}, {9, 0, 1}}, 8, []int64{0, 8}},
		// A spring at its Least exactly is not fixed, and one that would be a little below it is.
		{[]Spring{{10, 9, 1}, {10, 7, 3}}, 16, []int64{9, 7}}, {[]Spring{{10, 9, 1}, {10, 8, 3}}, 17, []int64{9, 8}}, {[]Spring{{10, 0, 1}, {10, 8, 3}}, 16, []int64{8, 8}},
		{[]Spring{{10, 0, 1}, {10, 7, 3}}, 15, []int64{8, 7}}, {[]Spring{{10, 0, 1}, {10, 6, 3}}, 15, []int64{8, 6}}, {[]Spring{{10, 9, 1}, {10, 0, 3}}, 15, []int64{9, 6}},
		{[]Spring{{10, 0, 2}, {10, 9, 1}}, 18, []int64{8, 9}}, {[]Spring{{10, 0, 2}, {10, 9, 1}}, 16, []int64{7, 9}},
		// What a fixed spring does not give, the others give.
		{[]Spring{{100, 90, 10}, {100, 95, 10}, {100, 0, 1}}, 200, []int64{90, 95, 15}},
		{[]Spring{{4, 4, 5}, {9, 0, 1}}, 8, []int64{4, 4}}, {[]Spring{{9, 0, 1}, {4, 4, 5}, {9, 0, 1}}, 10, []int64{3, 4, 3}},
		// One after the other: each is above its Least till the one before is fixed.
		{[]Spring{{100, 95, 8}, {100, 80, 4}, {100, 0, 1}}, 260, []int64{95, 80, 85}},
		{[]Spring{{100, 95, 8}, {100, 80, 4}, {100, 86, 2}, {100, 0, 1}}, 350, []int64{95, 80, 86, 89}},
		{[]Spring{{100, 0, 1}, {100, 86, 2}, {100, 80, 4}, {100, 95, 8}}, 350, []int64{89, 86, 80, 95}},
		{[]Spring{{100, 95, 8}, {100, 80, 4}, {100, 86, 2}, {100, 0, 1}}, 360, []int64{95, 80, 90, 95}},
		// Those that cannot be compressed keep their Want, whatever their Least is.
		{[]Spring{{10, 5, 0}, {10, 0, 2}}, 12, []int64{10, 2}}, {[]Spring{{10, 5, 0}, {10, 0, 2}}, 10, []int64{10, 0}}, {[]Spring{{10, 0, 2}, {10, 0, 0}, {10, 0, 2}}, 17, []int64{3, 10, 3}},
		{[]Spring{{10, 0, 0}, {10, 0, 0}}, 20, []int64{10, 10}}, {[]Spring{{10, 5, 0}, {10, 3, 2}}, 13, []int64{10, 3}},
		// The floor fits exactly.
		{[]Spring{{10, 2, 1}, {10, 4, 3}, {10, 6, 100}}, 12, []int64{2, 4, 6}}, {[]Spring{{10, 2, 1}, {10, 4, 3}, {10, 6, 100}}, 13, []int64{3, 4, 6}},
		{[]Spring{{10, 10, 1}, {10, 10, 1000}}, 20, []int64{10, 10}}, {[]Spring{{10, 10, 1}, {10, 0, 1}}, 10, []int64{10, 0}},
		// The greatest numbers.
		{[]Spring{{most, 0, 1000}, {most, 0, 1000}, {most, most, 0}}, most, []int64{0, 0, most}}, {[]Spring{{most, 0, 1000}, {most, 0, 1000}}, most, []int64{most / 2, most / 2}},
		{slices.Repeat([]Spring{{most, 0, 1000}}, 20), most, slices.Repeat([]int64{3355443}, 20)}, {slices.Repeat([]Spring{{most, 0, 1000}}, 20), 0, make([]int64, 20)},
		{slices.Repeat([]Spring{{1, 0, 1}}, 20), 20, slices.Repeat([]int64{1}, 20)}, {slices.Repeat([]Spring{{1, 0, 1}}, 20), 19, make([]int64, 20)},
		{[]Spring{{most, 0, 1}, {most, 0, 1000}}, most, []int64{most - most/1001 - 1, most / 1001}}, {[]Spring{{most, 0, 1000}, {1, 0, 1}}, most, []int64{most - 1, 0}},
	} {
		got, errno := Press(test.l, test.room)
		if !slices.Equal(got, test.want) || errno != api.OK {
			t.Errorf("P13.1: Press(%v, %d): %v, %d, want %v, 0", test.l, test.room, got, errno, test.want)
		}
	}
}

func TestPressWrongArguments(t *testing.T) {
	for _, test := range []struct {
		l    []Spring
		room int64
		want api.Errno
	}{
		// The floor is one more than the room.
		{two()[:1], 0, api.OK}, {[]Spring{{1, 1, 1}}, 0, api.ENOFIT}, {[]Spring{{1, 0, 0}}, 0, api.ENOFIT}, {[]Spring{{10, 5, 0}, {10, 3, 2}}, 12, api.ENOFIT},
		{[]Spring{{10, 2, 1}, {10, 4, 3}, {10, 6, 100}}, 11, api.ENOFIT}, {[]Spring{{10, 0, 0}, {10, 0, 0}}, 19, api.ENOFIT}, {[]Spring{{10, 10, 1}, {10, 10, 1000}}, 19, api.ENOFIT},
		// Far more.
		{[]Spring{{most, 0, 0}, {most, 0, 0}}, most, api.ENOFIT}, {[]Spring{{most, 0, 0}, {1, 0, 0}}, most, api.ENOFIT}, {slices.Repeat([]Spring{{most, most, 0}}, 20), most, api.ENOFIT},
		{slices.Repeat([]Spring{{most, most, 1}}, 20), 0, api.ENOFIT},
		// Too many: ahead of all that does not fit.
		{tooMany(), 50, api.EARG}, {tooMany(), 0, api.EARG}, {slices.Repeat([]Spring{{1, 1, 1}}, 21), 20, api.EARG}, {slices.Repeat([]Spring{{1, 1, 0}}, 300), 0, api.EARG},
		{slices.Repeat([]Spring{{0, 0, 0}}, 21), 0, api.EARG},
	} {
		got, errno := Press(test.l, test.room)
		if errno != test.want || errno != api.OK && len(got) != 0 {
			t.Errorf("P13.1: Press(%v, %d): %v, %d, want error %d", test.l, test.room, got, errno, test.want)
		}
	}
	refused := func(l []Spring, room int64) {
		t.Helper()
		if got, errno := Press(l, room); len(got) != 0 || errno != api.EARG {
			t.Errorf("P13.1: Press(%v, %d): %v, %d, want nothing, EARG", l, room, got, errno)
		}
	}
	for _, room := range notRooms() {
		refused(nil, room)
		refused(two(), room)
		refused([]Spring{{10, 10, 0}}, room)
	}
	// A spring that is not valid, wherever it stands, and whether the others fit or not.
	for _, wrong := range notValid() {
		for _, room := range append(notRooms(), 0, 5, 100, most) {
			refused([]Spring{wrong}, room)
			refused([]Spring{wrong, {10, 10, 0}}, room)
			refused([]Spring{{10, 0, 1}, {10, 10, 1}, wrong}, room)
		}
	}
}

func TestFloor(t *testing.T) {
	for _, test := range []struct {
		l    []Spring
		want int64
	}{
		{nil, 0}, {[]Spring{}, 0}, {two(), 0}, {[]Spring{{10, 4, 0}}, 10}, {[]Spring{{10, 4, 1}}, 4}, {[]Spring{{10, 4, 0}, {10, 4, 1}}, 14},
		{[]Spring{{10, 4, 1000}, {9, 3, 0}, {8, 2, 1}, {7, 1, 0}}, 22}, {[]Spring{{5, 5, 0}, {5, 5, 1}}, 10}, {[]Spring{{0, 0, 0}, {0, 0, 1}}, 0},
		// More than any room, and as many as there may be.
		{slices.Repeat([]Spring{{most, 0, 0}}, 20), 20 * most}, {slices.Repeat([]Spring{{most, most, 1}}, 20), 20 * most}, {slices.Repeat([]Spring{{most, 0, 1}}, 20), 0},
		{slices.Repeat([]Spring{{most, most - 1, 1}}, 20), 20*most - 20},
	} {
		if got, ok := Floor(test.l); got != test.want || !ok {
			t.Errorf("P13.1: Floor(%v): %d, %t, want %d, true", test.l, got, ok, test.want)
		}
	}
	wrong := [][]Spring{tooMany(), slices.Repeat([]Spring{{1, 1, 0}}, 21), slices.Repeat([]Spring{{0, 0, 0}}, 200)}
	for _, s := range notValid() {
		wrong = append(wrong, []Spring{s}, []Spring{s, {10, 4, 0}}, []Spring{{10, 4, 0}, {10, 4, 1}, s})
	}
	for _, l := range wrong {
		if got, ok := Floor(l); got != 0 || ok {
			t.Errorf("P13.1: Floor(%v): %d, %t, want 0, false", l, got, ok)
		}
	}
}

func TestCost(t *testing.T) {
	for _, test := range []struct {
		l    []Spring
		x    []int64
		want int64
	}{
		{nil, nil, 0}, {[]Spring{}, []int64{}, 0}, {nil, []int64{}, 0}, {two(), []int64{10, 10}, 0}, {two(), []int64{9, 7}, 4}, {two(), []int64{7, 10}, 9}, {two(), []int64{0, 0}, 133},
		// Each rounded down by itself.
		{[]Spring{{10, 0, 2}, {10, 0, 3}}, []int64{7, 6}, 4 + 5}, {[]Spring{{10, 0, 2}, {10, 0, 2}}, []int64{9, 9}, 0}, {[]Spring{{10, 0, 2}, {10, 0, 2}, {10, 0, 2}}, []int64{9, 7, 5}, 0 + 4 + 12},
		{slices.Repeat([]Spring{{10, 0, 10}}, 20), slices.Repeat([]int64{7}, 20), 0}, {[]Spring{{40, 0, 1000}}, []int64{9}, 0}, {[]Spring{{40, 0, 1000}}, []int64{8}, 1},
		// A share that is less than the Least, even negative, is counted too.
		{[]Spring{{10, 8, 1}}, []int64{5}, 25}, {[]Spring{{10, 0, 1}}, []int64{-1}, 121}, {[]Spring{{0, 0, 1}}, []int64{-most}, most * most},
		// Those with Soft 0 are not counted, whatever their share is.
		{[]Spring{{10, 0, 0}}, []int64{99}, 0}, {[]Spring{{10, 0, 0}}, []int64{5}, 0}, {[]Spring{{10, 0, 0}}, []int64{math.MinInt64}, 0}, {[]Spring{{10, 0, 0}}, []int64{math.MaxInt64}, 0},
		{[]Spring{{10, 0, 0}, {10, 0, 3}, {10, 0, 0}}, []int64{most + 11, 7, -most - 1}, 3},
		// The ends of the range.
		{[]Spring{{10, 0, 1}}, []int64{10 - most}, most * most}, {[]Spring{{most, 0, 1}}, []int64{0}, most * most}, {[]Spring{{most, 0, 1000}}, []int64{0}, 4503599627370},
		{slices.Repeat([]Spring{{most, 0, 1}}, 20), make([]int64, 20), 20 * most * most}, {[]Spring{{most, 0, 1}}, []int64{1}, (most - 1) * (most - 1)},
	} {
		if got, ok := Cost(test.l, test.x); got != test.want || !ok {
			t.Errorf("P13.1: Cost(%v, %v): %d, %t, want %d, true", test.l, test.x, got, ok, test.want)
		}
	}
}

func TestCostWrongArguments(t *testing.T) {
	check := func(l []Spring, x []int64) {
		t.Helper()
		if got, ok := Cost(l, x); got != 0 || ok {
			t.Errorf("P13.1: Cost(%v, %v): %d, %t, want 0, false", l, x, got, ok)
		}
	}
	check(tooMany(), make([]int64, 21))
	check(slices.Repeat([]Spring{{1, 0, 0}}, 21), make([]int64, 21))
	for _, s := range notValid() {
		check([]Spring{s}, []int64{0})
		check([]Spring{s}, []int64{s.Want})
		check([]Spring{{10, 0, 1}, s}, []int64{5, 0})
		check([]Spring{s, {10, 0, 1}}, []int64{0, 5})
	}
	// Another length.
	for _, x := range [][]int64{nil, {}, {9}, {9, 7, 0}, {9, 7, 10, 10}} {
		check(two(), x)
	}
	check(nil, []int64{0})
	check([]Spring{{10, 0, 0}}, nil)
	check([]Spring{{10, 0, 0}}, []int64{10, 10})
	// A difference that is negative or too great, wherever it stands.
	for _, share := range []int64{11, 12, 1000, most, math.MaxInt64 - 1, math.MaxInt64, 9 - most, 8 - most, -2 * most, -1 << 32, 11 - math.MaxInt64, 10 + math.MinInt64, 11 + math.MinInt64, math.MinInt64 + 1, math.MinInt64} {
		check([]Spring{{10, 0, 1}}, []int64{share})
		check([]Spring{{10, 10, 1000}}, []int64{share})
		check([]Spring{{10, 0, 1}, {10, 0, 3}}, []int64{share, 7})
		check([]Spring{{10, 0, 1}, {10, 0, 3}}, []int64{9, share})
		check([]Spring{{10, 0, 0}, {10, 0, 3}}, []int64{share, share})
	}
	check([]Spring{{0, 0, 1}}, []int64{1})
	check([]Spring{{0, 0, 1}}, []int64{-most - 1})
	check([]Spring{{most, 0, 1}}, []int64{most + 1})
	check([]Spring{{most, 0, 1}}, []int64{-1})
}

// pressure returns how much a spring of Soft 1 gives way if the shares fill the room exactly. There is less room than the Wants take.
func pressure(l []Spring, room int64) *big.Rat {
	// Up to each of these pressures more springs give way than beyond it.
	var ends []*big.Rat
	for _, s := range l {
		if s.Soft > 0 {
			ends = append(ends, big.NewRat(s.Want-s.Least, s.Soft))
		}
	}
	slices.SortFunc(ends, (*big.Rat).Cmp)
	for _, end := range ends {
		rest := big.NewRat(-room, 1)
		softs := int64(0)
		for _, s := range l {
			rest.Add(rest, exact(s, end))
			if s.Soft > 0 && big.NewRat(s.Want-s.Least, s.Soft).Cmp(end) >= 0 {
				softs += s.Soft
			}
		}
		if rest.Sign() <= 0 {
			// At the end more gave way than must: as much as is left over is given back.
			return end.Add(end, rest.Quo(rest, big.NewRat(softs, 1)))
		}
	}
	return nil
}

// exact returns the share of a spring under that pressure.
func exact(s Spring, pressure *big.Rat) *big.Rat {
	share := big.NewRat(s.Want, 1)
	if s.Soft == 0 {
		return share
	}
	share.Sub(share, new(big.Rat).Mul(pressure, big.NewRat(s.Soft, 1)))
	if least := big.NewRat(s.Least, 1); share.Cmp(least) < 0 {
		return least
	}
	return share
}

// modelPress finds the shares by their pressure, not by fixing one spring after the other.
func modelPress(l []Spring, room int64) ([]int64, api.Errno) {
	floor, all := int64(0), int64(0)
	shares := make([]int64, len(l))
	for i, s := range l {
		shares[i] = s.Want
		all += s.Want
		if s.Soft == 0 {
			floor += s.Want
		} else {
			floor += s.Least
		}
	}
	if floor > room {
		return nil, api.ENOFIT
	}
	if all <= room {
		return shares, api.OK
	}
	p := pressure(l, room)
	for i, s := range l {
		share := exact(s, p)
		shares[i] = new(big.Int).Div(share.Num(), share.Denom()).Int64()
	}
	return shares, api.OK
}

// randomSprings returns up to most springs with Wants up to about scale.
func randomSprings(random *rand.Rand, most int, scale int64) []Spring {
	l := make([]Spring, random.Intn(most+1))
	for i := range l {
		want := random.Int63n(scale)
		least := int64(0)
		if random.Intn(3) > 0 {
			least = random.Int63n(want + 1)
		}
		soft := int64(0)
		if random.Intn(5) > 0 {
			soft = random.Int63n(1 << (1 + random.Intn(9)))
		}
		l[i] = Spring{want, least, soft}
	}
	return l
}

func TestRandomSpringsAgainstModel(t *testing.T) {
	random := rand.New(rand.NewSource(13))
	const runs = 30000
	all, pressed, none := 0, 0, 0
	for range runs {
		scale := int64(1) << (1 + random.Intn(26))
		l := randomSprings(random, api.MaxTasks, scale)
		room := min(random.Int63n(scale*int64(1+len(l))), most)
		want, errno := modelPress(l, room)
		got, e := Press(l, room)
		if !slices.Equal(got, want) || e != errno {
			t.Fatalf("P13.1: Press(%v, %d): %v, %d, want %v, %d", l, room, got, e, want, errno)
		}
		floor, ok := Floor(l)
		if !ok || (floor > room) != (errno == api.ENOFIT) {
			t.Fatalf("P13.1: Floor(%v): %d, %t, but in %d Press answers %d", l, floor, ok, room, errno)
		}
		if errno != api.OK {
			none++
			continue
		}
		cost, ok := Cost(l, got)
		if wanted := modelCost(l, got); cost != wanted || !ok {
			t.Fatalf("P13.1: Cost(%v, %v): %d, %t, want %d, true", l, got, cost, ok, wanted)
		}
		if cost == 0 {
			all++
		} else {
			pressed++
		}
	}
	// Lest the springs were all of one kind.
	if all < runs/10 || pressed < runs/10 || none < runs/10 {
		t.Errorf("of %d random lists %d fit, %d are pressed, and %d can't be: too few", runs, all, pressed, none)
	}
}

// modelCost sums the costs of shares that are at most the Wants.
func modelCost(l []Spring, x []int64) int64 {
	sum := new(big.Int)
	for i, s := range l {
		if s.Soft > 0 {
			lost := big.NewInt(s.Want - x[i])
			sum.Add(sum, new(big.Int).Div(lost.Mul(lost, lost), big.NewInt(s.Soft)))
		}
	}
	return sum.Int64()
}

// exactCost is the cost with nothing rounded.
func exactCost(l []Spring, x []int64) *big.Rat {
	sum := new(big.Rat)
	for i, s := range l {
		if s.Soft > 0 {
			sum.Add(sum, big.NewRat((s.Want-x[i])*(s.Want-x[i]), s.Soft))
		}
	}
	return sum
}

// others calls visit with all whole shares from x[i:] on that the springs can have and that fit into room.
func others(l []Spring, x []int64, i int, room int64, visit func()) {
	if i == len(l) {
		visit()
		return
	}
	low := l[i].Least
	if l[i].Soft == 0 {
		low = l[i].Want
	}
	for share := low; share <= min(l[i].Want, room); share++ {
		x[i] = share
		others(l, x, i+1, room-share, visit)
	}
}

// TestLeastCost: T4: shares that were not rounded cost less than any others that fit.
func TestLeastCost(t *testing.T) {
	random := rand.New(rand.NewSource(14))
	unrounded := 0
	for range 20000 {
		l := randomSprings(random, 4, 8)
		room := random.Int63n(24)
		got, errno := Press(l, room)
		if errno != api.OK {
			others(l, make([]int64, len(l)), 0, room, func() { t.Errorf("T4: Press(%v, %d) is refused, but there are shares that fit", l, room) })
			continue
		}
		sum := int64(0)
		for i, s := range l {
			sum += got[i]
			if got[i] > s.Want || got[i] < s.Least || s.Soft == 0 && got[i] != s.Want {
				t.Fatalf("T4: Press(%v, %d): %v: a share is out of its bounds", l, room, got)
			}
		}
		if sum > room {
			t.Fatalf("T4: Press(%v, %d): %v: more than the room", l, room, got)
		}
		// A sum that is less than the room may have been rounded.
		cost := exactCost(l, got)
		if sum < room && cost.Sign() > 0 {
			continue
		}
		if cost.Sign() > 0 {
			unrounded++
		}
		x := make([]int64, len(l))
		others(l, x, 0, room, func() {
			if !slices.Equal(x, got) && exactCost(l, x).Cmp(cost) <= 0 {
				t.Errorf("T4: Press(%v, %d): %v: %v costs no more", l, room, got, x)
			}
		})
	}
	if unrounded < 1000 {
		t.Errorf("of 20000 random lists only %d are pressed to whole shares: too few", unrounded)
	}
}

// TestArgumentsAreLeftAlone: R4: the lists stay as they are, with their spare capacity, and no answer shares memory.
func TestArgumentsAreLeftAlone(t *testing.T) {
	whole := []Spring{{10, 9, 8}, {10, 2, 4}, {10, 0, 0}, {10, 1, 1}, {10, 11, 1}, {7, 7, 7}}
	kept := slices.Clone(whole)
	x := []int64{9, 7, 10, 10, 3, 2}
	keptX := slices.Clone(x)
	for n := range whole {
		for room := range int64(50) {
			Press(whole[:n], room)
		}
		Floor(whole[:n])
		Cost(whole[:n], x[:n])
		Good(whole[n])
	}
	if !slices.Equal(whole, kept) || !slices.Equal(x, keptX) {
		t.Errorf("R4: the lists were changed: %v, %v, want %v, %v", whole, x, kept, keptX)
	}
	for _, room := range []int64{25, 40, 50} {
		first, _ := Press(whole[:4], room)
		want := slices.Clone(first)
		clear(first[:cap(first)])
		if again, _ := Press(whole[:4], room); !slices.Equal(again, want) {
			t.Errorf("R4: Press answers %v, and %v once the first answer is written over", want, again)
		}
	}
}
