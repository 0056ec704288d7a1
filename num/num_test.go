package num

import (
	"math"
	"math/big"
	"math/rand"
	"slices"
	"testing"
)

const (
	least    = math.MinInt64
	greatest = math.MaxInt64
)

// pairCase is a call of two numbers; ok false stands for 0 and false.
type pairCase struct {
	a, b, want int64
	ok         bool
}

func testPairs(t *testing.T, name string, f func(a, b int64) (int64, bool), cases []pairCase) {
	t.Helper()
	for _, c := range cases {
		if got, ok := f(c.a, c.b); got != c.want || ok != c.ok {
			t.Errorf("P1.1: %s(%d, %d): %d, %v, want %d, %v", name, c.a, c.b, got, ok, c.want, c.ok)
		}
	}
}

func TestAdd(t *testing.T) {
	testPairs(t, "Add", Add, []pairCase{
		{2, 3, 5, true}, {-2, 3, 1, true}, {2, -3, -1, true}, {-2, -3, -5, true}, {0, 0, 0, true},
		{greatest, 0, greatest, true}, {0, least, least, true}, {greatest, least, -1, true},
		{greatest - 1, 1, greatest, true}, {greatest, 1, 0, false}, {1, greatest, 0, false}, {greatest, greatest, 0, false},
		{least + 1, -1, least, true}, {least, -1, 0, false}, {-1, least, 0, false}, {least, least, 0, false},
	})
}

func TestSub(t *testing.T) {
	testPairs(t, "Sub", Sub, []pairCase{
		{5, 3, 2, true}, {3, 5, -2, true}, {-3, 5, -8, true}, {3, -5, 8, true}, {0, 0, 0, true},
		{least, least, 0, true}, {greatest, greatest, 0, true}, {-1, least, greatest, true},
		{0, least, 0, false}, {1, least, 0, false}, {0, greatest, -greatest, true}, {-1, greatest, least, true},
		{-2, greatest, 0, false}, {least, 1, 0, false}, {least + 1, 1, least, true}, {greatest, -1, 0, false},
		{greatest - 1, -1, greatest, true}, {greatest, least, 0, false}, {least, greatest, 0, false},
	})
}

func TestMul(t *testing.T) {
	testPairs(t, "Mul", Mul, []pairCase{
		{6, 7, 42, true}, {-6, 7, -42, true}, {6, -7, -42, true}, {-6, -7, 42, true},
		{0, least, 0, true}, {greatest, 0, 0, true},
		{least, 1, least, true}, {1, least, least, true}, {least, -1, 0, false}, {-1, least, 0, false},
		{greatest, 1, greatest, true}, {greatest, -1, -greatest, true}, {least, least, 0, false}, {greatest, greatest, 0, false},
		{1 << 31, 1 << 32, 0, false}, {-1 << 31, 1 << 32, least, true}, {1 << 32, 1 << 32, 0, false}, {-1 << 32, 1 << 32, 0, false},
		{3037000499, 3037000499, 9223372030926249001, true}, {3037000500, 3037000500, 0, false},
		// The lower half of this product, 2^64 + 2^32 - 2, looks like a product that fits.
		{(1 << 33) - 2, (1 << 31) + 1, 0, false},
	})
}

func TestCmpMul(t *testing.T) {
	for _, c := range []struct {
		a, b, c, d int64
		want       int
	}{
		{2, 3, 1, 7, -1}, {2, 3, 1, 6, 0}, {2, 3, 1, 5, 1}, {-2, 3, -1, 5, -1}, {-2, 3, 2, -3, 0}, {-2, -3, 1, 5, 1},
		{0, least, greatest, 0, 0}, {0, least, -1, 1, 1}, {0, 5, 1, 1, -1},
		// Products past 64 bits that differ by 1.
		{1 << 40, 1 << 40, 1<<40 + 1, 1<<40 - 1, 1}, {1<<40 + 1, 1<<40 - 1, 1 << 40, 1 << 40, -1},
		// The lower halves are compared unsigned.
		{1 << 32, 1 << 31, 1, 1, 1}, {1, 1, 1 << 32, 1 << 31, -1}, {1 << 32, 1 << 31, 1 << 33, 1 << 31, -1},
		{greatest, greatest, greatest - 1, greatest, 1}, {least, least, greatest, greatest, 1}, {least, least, least, greatest, 1}, {least, greatest, least, least, -1},
		{least, greatest, greatest, least, 0}, {least, least, least, least, 0}, {least, -1, greatest, 1, 1}, {least, 1, -greatest, 1, -1},
	} {
		if got := CmpMul(c.a, c.b, c.c, c.d); got != c.want {
			t.Errorf("P1.1: CmpMul(%d, %d, %d, %d): %d, want %d", c.a, c.b, c.c, c.d, got, c.want)
		}
	}
}

// shareCase is a call of Share or Up; ok false stands for 0 and false.
type shareCase struct {
	a, b, c, want int64
	ok            bool
}

func testShares(t *testing.T, name string, f func(a, b, c int64) (int64, bool), cases []shareCase) {
	t.Helper()
	for _, c := range cases {
		if got, ok := f(c.a, c.b, c.c); got != c.want || ok != c.ok {
			t.Errorf("P1.1: %s(%d, %d, %d): %d, %v, want %d, %v", name, c.a, c.b, c.c, got, ok, c.want, c.ok)
		}
	}
}

func TestShare(t *testing.T) {
	testShares(t, "Share", Share, []shareCase{
		{-7, 1, 2, -4, true}, {7, -1, 2, -4, true}, {7, 1, 2, 3, true}, {-7, -1, 2, 3, true},
		{8, 1, 2, 4, true}, {-8, 1, 2, -4, true}, {1, 1, 2, 0, true}, {-1, 1, greatest, -1, true}, {0, -1, 5, 0, true}, {-1, 0, 5, 0, true},
		// The product is past 64 bits, the quotient is not.
		{greatest, greatest, greatest, greatest, true}, {least, greatest, greatest, least, true}, {least, least, greatest, 0, false},
		{least, -1, 2, 1 << 62, true}, {1 << 40, 1 << 40, 1 << 20, 1 << 60, true}, {1 << 40, 1<<40 + 1, 1 << 41, 1 << 39, true}, {-1 << 40, 1<<40 + 1, 1 << 41, -1<<39 - 1, true},
		// Just at and just past the edges: 2^63 - 1/2 and its negative both go down to a number in the range.
		{greatest, 1, 1, greatest, true}, {least, 1, 1, least, true}, {least, -1, 1, 0, false},
		{1<<32 - 1, 1<<32 + 1, 2, greatest, true}, {-(1<<32 - 1), 1<<32 + 1, 2, least, true},
	})
	testShares(t, "Share", Share, noShares())
}

func TestUp(t *testing.T) {
	testShares(t, "Up", Up, []shareCase{
		{-7, 1, 2, -3, true}, {7, -1, 2, -3, true}, {7, 1, 2, 4, true}, {-7, -1, 2, 4, true},
		{8, 1, 2, 4, true}, {-8, 1, 2, -4, true}, {1, 1, greatest, 1, true}, {-1, 1, 2, 0, true}, {0, -1, 5, 0, true}, {-1, 0, 5, 0, true},
		{greatest, greatest, greatest, greatest, true}, {least, greatest, greatest, least, true}, {least, least, greatest, 0, false},
		{least, -1, 2, 1 << 62, true}, {1 << 40, 1 << 40, 1 << 20, 1 << 60, true}, {1 << 40, 1<<40 + 1, 1 << 41, 1<<39 + 1, true}, {-1 << 40, 1<<40 + 1, 1 << 41, -1 << 39, true},
		// Just at and just past the edges: 2^63 - 1/2 goes up out of the range, the negative one stays in it.
		{greatest, 1, 1, greatest, true}, {least, 1, 1, least, true}, {least, -1, 1, 0, false},
		{1<<32 - 1, 1<<32 + 1, 2, 0, false}, {-(1<<32 - 1), 1<<32 + 1, 2, -greatest, true},
	})
	testShares(t, "Up", Up, noShares())
}

// noShares: calls that neither way of rounding can answer.
func noShares() []shareCase {
	return []shareCase{
		{6, 1, 0, 0, false}, {6, 1, -1, 0, false}, {6, 1, least, 0, false}, {0, 0, 0, 0, false}, {0, 5, -3, 0, false},
		{greatest, greatest, 1, 0, false}, {least, greatest, 1, 0, false}, {least, least, 1, 0, false}, {greatest, greatest, greatest - 3, 0, false},
		// The quotient is 2^64 or one less.
		{1 << 62, 12, 3, 0, false}, {-1 << 62, 12, 3, 0, false}, {1<<32 - 1, 1<<32 + 1, 1, 0, false}, {-(1<<32 - 1), 1<<32 + 1, 1, 0, false},
	}
}

// TestRoundingFarOut: where the next number away from zero would wrap round to 0, and where rounding leads back into the range.
func TestRoundingFarOut(t *testing.T) {
	// a * b = 2^65 - 1 = 31 * 8191 * 145295143558111, so half of it is 2^64 - 1/2.
	a, b := int64(31*8191), int64(145295143558111)
	for _, f := range []func(a, b, c int64) (int64, bool){Share, Up} {
		for _, s := range []int64{1, -1} {
			if got, ok := f(s*a, b, 2); got != 0 || ok {
				t.Errorf("P1.1: the half of %d * %d: %d, %v, want 0, false", s*a, b, got, ok)
			}
		}
	}
	// 2^64 + 1 = 274177 * 67280421310721, so half of it is 2^63 + 1/2.
	a, b = -274177, 67280421310721
	testShares(t, "Share", Share, []shareCase{{a, b, 2, 0, false}, {-a, b, 2, 0, false}})
	testShares(t, "Up", Up, []shareCase{{a, b, 2, least, true}, {-a, b, 2, 0, false}})
}

func TestGcd(t *testing.T) {
	for _, c := range []struct{ a, b, want int64 }{
		{12, 18, 6}, {18, 12, 6}, {-12, 18, 6}, {12, -18, 6}, {-12, -18, 6}, {7, 5, 1}, {6, 6, 6}, {1, 1 << 40, 1},
		{0, 0, 0}, {0, 5, 5}, {5, 0, 5}, {0, -5, 5}, {-5, 0, 5},
		{greatest, greatest, greatest}, {greatest, 0, greatest}, {-greatest, 0, greatest}, {greatest, 7, 7}, {greatest, 2, 1},
		{least, 2, 1}, {2, least, 1}, {least, 0, 1}, {0, least, 1}, {least, least, 1}, {least, -1, 1}, {least + 1, least + 1, greatest},
	} {
		if got := Gcd(c.a, c.b); got != c.want {
			t.Errorf("P1.1: Gcd(%d, %d): %d, want %d", c.a, c.b, got, c.want)
		}
	}
}

func TestLcm(t *testing.T) {
	for _, c := range []struct {
		most int64
		l    []int64
		want int64
		ok   bool
	}{
		{100, []int64{4, 6}, 12, true}, {100, []int64{6, 4}, 12, true}, {100, []int64{4, 6, 10}, 60, true}, {100, []int64{9}, 9, true}, {100, []int64{5, 5, 5}, 5, true},
		{1, nil, 1, true}, {1, []int64{}, 1, true}, {0, nil, 0, false}, {least, nil, 0, false}, {0, []int64{1}, 0, false}, {1, []int64{1}, 1, true},
		{12, []int64{4, 6}, 12, true}, {11, []int64{4, 6}, 0, false}, {13, []int64{4, 6}, 12, true},
		{100, []int64{0}, 0, false}, {100, []int64{4, 0}, 0, false}, {100, []int64{0, 4}, 0, false}, {100, []int64{4, -6}, 0, false}, {100, []int64{least}, 0, false},
		{greatest, []int64{greatest}, greatest, true}, {greatest - 1, []int64{greatest}, 0, false}, {greatest, []int64{7, greatest, 73}, greatest, true}, {greatest, []int64{greatest, 2}, 0, false},
		// The product is past 64 bits, the result is not.
		{greatest, []int64{1 << 62, 1 << 61, 1 << 40}, 1 << 62, true}, {greatest, []int64{1 << 62, 3}, 0, false}, {greatest, []int64{greatest, greatest - 1, greatest - 2}, 0, false},
	} {
		if got, ok := Lcm(c.most, c.l...); got != c.want || ok != c.ok {
			t.Errorf("P1.1: Lcm(%d, %d): %d, %v, want %d, %v", c.most, c.l, got, ok, c.want, c.ok)
		}
	}
}

// TestLcmLeavesItsList holds Lcm to R4.
func TestLcmLeavesItsList(t *testing.T) {
	whole := []int64{6, 4, 10, 99, 98}
	before := slices.Clone(whole)
	if got, ok := Lcm(60, whole[:3]...); got != 60 || !ok {
		t.Errorf("P1.1: Lcm(60, 6, 4, 10): %d, %v", got, ok)
	}
	if !slices.Equal(whole, before) {
		t.Errorf("R4: Lcm left its list as %d, it was %d", whole, before)
	}
}

// fits is the big number as a call answers it.
func fits(x *big.Int) (int64, bool) {
	if !x.IsInt64() {
		return 0, false
	}
	return x.Int64(), true
}

// anyNumber takes every size of number about as often as any other, and the edges of the range often.
func anyNumber(r *rand.Rand) int64 {
	n := int64(r.Uint64()) >> r.Intn(64)
	switch r.Intn(8) {
	case 0:
		return greatest - int64(r.Intn(3))
	case 1:
		return least + int64(r.Intn(3))
	case 2:
		return 1 << r.Intn(63)
	}
	return n
}

// TestAgainstBig holds the calls against exact arithmetic on many numbers; the fixed seed makes every run the same.
func TestAgainstBig(t *testing.T) {
	r := rand.New(rand.NewSource(1))
	for range 100000 {
		a, b, c, d := anyNumber(r), anyNumber(r), anyNumber(r), anyNumber(r)
		x, y := big.NewInt(a), big.NewInt(b)
		ab := new(big.Int).Mul(x, y)
		sum, sumOK := fits(new(big.Int).Add(x, y))
		diff, diffOK := fits(new(big.Int).Sub(x, y))
		prod, prodOK := fits(ab)
		testPairs(t, "Add", Add, []pairCase{{a, b, sum, sumOK}})
		testPairs(t, "Sub", Sub, []pairCase{{a, b, diff, diffOK}})
		testPairs(t, "Mul", Mul, []pairCase{{a, b, prod, prodOK}})
		if got, want := CmpMul(a, b, c, d), ab.Cmp(new(big.Int).Mul(big.NewInt(c), big.NewInt(d))); got != want {
			t.Errorf("P1.1: CmpMul(%d, %d, %d, %d): %d, want %d", a, b, c, d, got, want)
		}
		if c < 1 {
			continue
		}
		// DivMod rounds down for a divisor above 0.
		q, rest := new(big.Int).DivMod(ab, big.NewInt(c), new(big.Int))
		down, downOK := fits(q)
		if rest.Sign() != 0 {
			q.Add(q, big.NewInt(1))
		}
		up, upOK := fits(q)
		testShares(t, "Share", Share, []shareCase{{a, b, c, down, downOK}})
		testShares(t, "Up", Up, []shareCase{{a, b, c, up, upOK}})
	}
}

// leastCommon finds the answer of Lcm by trying.
func leastCommon(most int64, l []int64) (int64, bool) {
	for n := int64(1); n <= most; n++ {
		if !slices.ContainsFunc(l, func(m int64) bool { return m < 1 || n%m != 0 }) {
			return n, true
		}
	}
	return 0, false
}

// greatestCommon finds the answer of Gcd by trying.
func greatestCommon(a, b int64) int64 {
	for n := int64(40); n > 0; n-- {
		if a%n == 0 && b%n == 0 && (a != 0 || b != 0) {
			return n
		}
	}
	return 0
}

func TestSmallGcdAndLcm(t *testing.T) {
	for a := int64(-40); a <= 40; a++ {
		for b := int64(-40); b <= 40; b++ {
			if got, want := Gcd(a, b), greatestCommon(a, b); got != want {
				t.Errorf("P1.1: Gcd(%d, %d): %d, want %d", a, b, got, want)
			}
		}
	}
	for a := int64(-1); a <= 12; a++ {
		for b := int64(-1); b <= 12; b++ {
			for c := int64(0); c <= 12; c++ {
				l := []int64{a, b, c}
				want, fine := leastCommon(150, l)
				if got, ok := Lcm(150, l...); got != want || ok != fine {
					t.Errorf("P1.1: Lcm(150, %d): %d, %v, want %d, %v", l, got, ok, want, fine)
				}
			}
		}
	}
}
