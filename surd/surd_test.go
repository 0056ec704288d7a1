package surd

import (
	"math"
	"math/big"
	"math/rand"
	"testing"
)

const (
	least    = math.MinInt64
	greatest = math.MaxInt64
	whole    = 1_000_000_000
	ratio    = 1_000_000
)

// exactSign returns the sign of a + b * root(p / q), for any a and b and a ratio that is valid.
func exactSign(a, b *big.Int, p, q int64) int {
	left := signedSquare(a, q)
	right := signedSquare(b, p)
	return left.Add(left, right).Sign()
}

// signedSquare returns n * n * times, with the sign of n: the sum of two such numbers has the sign of the sum of their roots.
func signedSquare(n *big.Int, times int64) *big.Int {
	square := new(big.Int).Mul(n, n)
	square.Mul(square, big.NewInt(times))
	if n.Sign() < 0 {
		square.Neg(square)
	}
	return square
}

// isValid is the chapter's definition, in exact numbers.
func isValid(a, b *big.Int, p, q int64) bool {
	limit := big.NewInt(whole)
	return a.CmpAbs(limit) <= 0 && b.CmpAbs(limit) <= 0 && p >= 0 && p <= ratio && q >= 1 && q <= ratio
}

func TestGood(t *testing.T) {
	for _, s := range []Surd{
		{0, 0, 0, 1}, {5, -3, 2, 7}, {1, 1, 0, 1},
		{whole, 0, 1, 1}, {-whole, 0, 1, 1}, {0, whole, 1, 1}, {0, -whole, 1, 1},
		{0, 0, ratio, 1}, {0, 0, 0, ratio}, {whole, whole, ratio, ratio}, {-whole, -whole, ratio, ratio},
	} {
		if !Good(s) {
			t.Errorf("P2.1: Good(%v): false, want true", s)
		}
	}
	for _, s := range invalidSurds() {
		if Good(s) {
			t.Errorf("P2.1: Good(%v): true, want false", s)
		}
	}
}

// invalidSurds are the zero value and surds of which one number alone is out of its range; but for the zero value, none of them is 0.
func invalidSurds() []Surd {
	return []Surd{
		{}, {1, 1, 1, 0},
		{whole + 1, 0, 1, 1}, {-whole - 1, 0, 1, 1}, {greatest, 1, 1, 1}, {least, 1, 1, 1},
		{0, whole + 1, 1, 1}, {0, -whole - 1, 1, 1}, {1, greatest, 1, 1}, {1, least, 1, 1},
		{1, 1, -1, 1}, {1, 1, ratio + 1, 1}, {1, 1, greatest, 1}, {1, 1, least, 1},
		{1, 1, 1, -1}, {1, 1, 1, ratio + 1}, {1, 1, 1, greatest}, {1, 1, 1, least},
	}
}

func TestSign(t *testing.T) {
	for _, c := range []struct {
		s    Surd
		want int
	}{
		{Surd{3, 2, 5, 7}, 1}, {Surd{-3, -2, 5, 7}, -1}, {Surd{0, 0, 5, 7}, 0},
		{Surd{3, 0, 5, 7}, 1}, {Surd{-3, 0, 5, 7}, -1}, {Surd{0, 2, 5, 7}, 1}, {Surd{0, -2, 5, 7}, -1},
		// A root of 0 leaves the whole part alone.
		{Surd{0, 2, 0, 1}, 0}, {Surd{0, -2, 0, ratio}, 0}, {Surd{1, -whole, 0, 1}, 1}, {Surd{-1, whole, 0, 1}, -1},
		// Unlike signs: 3 / 2 is a little above the root of 2, 7 / 5 a little below.
		{Surd{3, -2, 2, 1}, 1}, {Surd{-3, 2, 2, 1}, -1}, {Surd{7, -5, 2, 1}, -1}, {Surd{-7, 5, 2, 1}, 1},
		// Rational roots cancel exactly.
		{Surd{3, -2, 9, 4}, 0}, {Surd{-3, 2, 9, 4}, 0}, {Surd{4, -2, 9, 4}, 1}, {Surd{2, -2, 9, 4}, -1},
		{Surd{whole, -ratio, ratio, 1}, 0}, {Surd{whole, -ratio - 1, ratio, 1}, -1}, {Surd{whole, -ratio + 1, ratio, 1}, 1},
		{Surd{ratio, -whole, 1, ratio}, 0}, {Surd{-ratio - 1, whole, 1, ratio}, -1}, {Surd{-ratio + 1, whole, 1, ratio}, 1},
		{Surd{whole, -whole, ratio, ratio}, 0}, {Surd{whole, -whole, ratio - 1, ratio}, 1}, {Surd{whole, -whole, ratio, ratio - 1}, -1},
		// Squares that differ by very little.
		{Surd{941664, -665857, 2, 1}, -1}, {Surd{-941664, 665857, 2, 1}, 1}, {Surd{941665, -665857, 2, 1}, 1},
		{Surd{768398401, -543339720, 2, 1}, 1}, {Surd{318281039, -225058681, 2, 1}, -1},
	} {
		if got := Sign(c.s); got != c.want {
			t.Errorf("P2.1: Sign(%v): %d, want %d", c.s, got, c.want)
		}
	}
	for _, s := range invalidSurds() {
		if got := Sign(s); got != 0 {
			t.Errorf("P2.1: Sign(%v), which is not valid: %d, want 0", s, got)
		}
	}
}

func TestSignAgainstExactNumbers(t *testing.T) {
	source := rand.New(rand.NewSource(2))
	for range 20000 {
		s := Surd{near(source, whole), near(source, whole), near(source, ratio), near(source, ratio)}
		if source.Intn(2) == 0 && s.Q > 0 && s.P >= 0 {
			s.A = nearRoot(source, s)
		}
		a, b := big.NewInt(s.A), big.NewInt(s.B)
		good, want := isValid(a, b, s.P, s.Q), 0
		if good {
			want = exactSign(a, b, s.P, s.Q)
		}
		if Good(s) != good || Sign(s) != want {
			t.Fatalf("P2.1: %v: Good %v, Sign %d, want %v, %d", s, Good(s), Sign(s), good, want)
		}
	}
}

// near returns a number of any size up to the limit, or one step about it or about 0.
func near(source *rand.Rand, limit int64) int64 {
	switch source.Intn(8) {
	case 0:
		return limit - 1 + source.Int63n(3)
	case 1:
		return -limit - 1 + source.Int63n(3)
	case 2:
		return source.Int63n(5) - 2
	case 3, 4, 5:
		return source.Int63n(limit + 1)
	}
	return -source.Int63n(limit + 1)
}

// nearRoot returns a whole part that nearly or wholly cancels the root part of s.
func nearRoot(source *rand.Rand, s Surd) int64 {
	return int64(-float64(s.B)*math.Sqrt(float64(s.P)/float64(s.Q))) + source.Int63n(3) - 1
}

func TestCmp(t *testing.T) {
	for _, c := range []struct {
		a, b int64
		s    Surd
		want int
	}{
		{3, 1, Surd{0, 2, 1, 1}, 0}, {4, 1, Surd{0, 2, 1, 1}, 1}, {2, 1, Surd{0, 2, 1, 1}, -1},
		{3, 1, Surd{1, 1, 2, 1}, -1}, {4, 1, Surd{1, 1, 2, 1}, 1}, {4, 1, Surd{1, -1, 2, 1}, 1}, {0, 1, Surd{0, -1, 2, 1}, 1}, {-1, 1, Surd{0, -1, 2, 1}, -1},
		// The difference is as great as may be, and one beyond.
		{whole, 0, Surd{0, 0, 1, 1}, 1}, {whole + 1, 0, Surd{0, 0, 1, 1}, 0}, {0, whole, Surd{0, 0, 1, 1}, -1}, {0, whole + 1, Surd{0, 0, 1, 1}, 0},
		{0, 0, Surd{whole, 0, 1, 1}, -1}, {0, 0, Surd{whole + 1, 0, 1, 1}, 0}, {0, 0, Surd{-whole, 0, 1, 1}, 1}, {0, 0, Surd{-whole - 1, 0, 1, 1}, 0},
		// s is not valid, but the difference is.
		{5, -2 * whole, Surd{2 * whole, 0, 1, 1}, 1}, {5, 2 * whole, Surd{-2 * whole, 4, 1, 1}, 1}, {5, 2 * whole, Surd{-2 * whole, 5, 1, 1}, 0}, {5, 2 * whole, Surd{-2 * whole, 6, 1, 1}, -1},
		// a - b alone does not fit an int64.
		{greatest, -1, Surd{greatest, 0, 1, 1}, 1}, {greatest, -1, Surd{greatest, 1, 1, 1}, 0}, {greatest, -1, Surd{greatest, 2, 1, 1}, -1},
		{least, 1, Surd{least, 0, 1, 1}, -1}, {least, 1, Surd{least, -1, 1, 1}, 0}, {least, 1, Surd{least, -2, 1, 1}, 1},
		{-2, greatest, Surd{least, 0, 1, 1}, -1}, {1, least, Surd{greatest, 0, 1, 1}, 1}, {0, least, Surd{greatest, 0, 1, 1}, 1}, {0, least, Surd{greatest, 1, 1, 1}, 0},
		// a - s.A alone does not fit, and b + s.A neither.
		{greatest, greatest, Surd{-1, 0, 1, 1}, 1}, {least, least, Surd{1, 0, 1, 1}, -1}, {least, least, Surd{1, -1, 1, 1}, 0},
		{-2, least, Surd{greatest, 0, 1, 1}, -1}, {-1, least, Surd{greatest, 3, 1, 1}, -1},
		// The difference does not fit at all; wrapped round it would be small.
		{greatest, least, Surd{0, 1, 2, 1}, 0}, {greatest, least, Surd{-1, 1, 2, 1}, 0}, {least, greatest, Surd{3, 1, 2, 1}, 0}, {least, greatest, Surd{0, 1, 2, 1}, 0},
		{greatest, -3, Surd{least, 1, 1, 1}, 0}, {least, greatest, Surd{greatest, 0, 1, 1}, 0}, {greatest, least, Surd{least, 0, 1, 1}, 0}, {0, least, Surd{least, 1, 1, 1}, 0}, {5, greatest, Surd{greatest, 0, 1, 1}, 0},
		// The root's number is as great as may be, one beyond, and without a negative.
		{5, 0, Surd{0, whole, 1, 1}, -1}, {5, 0, Surd{0, whole + 1, 1, 1}, 0}, {5, 0, Surd{0, -whole, 1, 1}, 1}, {5, 0, Surd{0, -whole - 1, 1, 1}, 0},
		{5, 0, Surd{0, least, 1, 1}, 0}, {5, 0, Surd{0, least, 0, 1}, 0}, {5, 0, Surd{0, greatest, 1, 1}, 0},
		// The ratio.
		{5, 0, Surd{0, 1, ratio, 1}, -1}, {5, 0, Surd{0, 1, ratio + 1, 1}, 0}, {5, 0, Surd{0, 1, 1, ratio}, 1}, {5, 0, Surd{0, 1, 1, ratio + 1}, 0},
		{5, 0, Surd{0, 1, -1, 1}, 0}, {5, 0, Surd{0, 1, 1, 0}, 0}, {5, 0, Surd{0, 9, 0, 1}, 1},
	} {
		if got := Cmp(c.a, c.b, c.s); got != c.want {
			t.Errorf("P2.1: Cmp(%d, %d, %v): %d, want %d", c.a, c.b, c.s, got, c.want)
		}
	}
}

func TestCmpAgainstExactNumbers(t *testing.T) {
	ends := []int64{least, least + 1, least + whole, -1 << 62, -2 * whole, -whole - 1, -whole, -1, 0, 1, whole, whole + 1, 2 * whole, 1 << 62, greatest - whole, greatest - 1, greatest}
	for _, a := range ends {
		for _, b := range ends {
			for _, part := range ends {
				// Beside each end, the whole part that brings the difference near 0 if there is one.
				for _, wholePart := range []int64{part, a - b + 1, a - b - whole, a - b + whole + 1} {
					for _, times := range []int64{-1, 0, 1, 2, whole, -whole - 1, least} {
						compareCmp(t, a, b, Surd{wholePart, times, 2, 3})
					}
				}
			}
		}
	}
}

func compareCmp(t *testing.T, a, b int64, s Surd) {
	t.Helper()
	difference := new(big.Int).Sub(big.NewInt(a), big.NewInt(b))
	difference.Sub(difference, big.NewInt(s.A))
	times := new(big.Int).Neg(big.NewInt(s.B))
	want := 0
	if isValid(difference, times, s.P, s.Q) {
		want = exactSign(difference, times, s.P, s.Q)
	}
	if got := Cmp(a, b, s); got != want {
		t.Errorf("P2.1: Cmp(%d, %d, %v): %d, want %d", a, b, s, got, want)
	}
}

// ratioCase is a call of Above and of Bound.
type ratioCase struct {
	v, w, p, q   int64
	above, bound bool
}

func testRatios(t *testing.T, cases []ratioCase) {
	t.Helper()
	for _, c := range cases {
		if got := Above(c.v, c.w, c.p, c.q); got != c.above {
			t.Errorf("P2.1: Above(%d, %d, %d, %d): %v, want %v", c.v, c.w, c.p, c.q, got, c.above)
		}
		if got := Bound(c.v, c.w, c.p, c.q); got != c.bound {
			t.Errorf("P2.1: Bound(%d, %d, %d, %d): %v, want %v", c.v, c.w, c.p, c.q, got, c.bound)
		}
	}
}

func TestAboveAndBound(t *testing.T) {
	testRatios(t, []ratioCase{
		// With a root of 2 the lines are 3 w and 9 w.
		{2, 1, 4, 1, false, true}, {3, 1, 4, 1, false, true}, {4, 1, 4, 1, true, true}, {9, 1, 4, 1, true, true}, {10, 1, 4, 1, true, false},
		// With a root of 3 / 2 they are 5 / 2 w and 25 / 4 w.
		{10, 4, 9, 4, false, true}, {11, 4, 9, 4, true, true}, {25, 4, 9, 4, true, true}, {26, 4, 9, 4, true, false},
		// With a root of 0 both are w.
		{6, 7, 0, 1, false, true}, {7, 7, 0, 1, false, true}, {8, 7, 0, 1, true, false}, {7, 7, 0, ratio, false, true}, {8, 7, 0, ratio, true, false},
		// With the root of 2 they are 2.414 w and 5.828 w.
		{2414213562, 0, 2, 1, false, false}, {241421356, 100000000, 2, 1, false, true}, {241421357, 100000000, 2, 1, true, true},
		{582842712, 100000000, 2, 1, true, true}, {582842713, 100000000, 2, 1, true, false},
		// Nothing is above nothing, and only nothing is within nothing.
		{0, 0, 2, 1, false, true}, {1, 0, 2, 1, true, false}, {0, 1, 2, 1, false, true}, {0, 0, 0, 1, false, true},
		{whole, 0, ratio, 1, true, false}, {0, whole, ratio, 1, false, true},
		{whole, whole, 0, 1, false, true}, {whole, whole - 1, 0, 1, true, false}, {whole, whole - 1, 1, ratio, false, true},
		// With the root as great as may be they are 1001 w and 1002001 w, and as little as may be 1.001 w and 1.002001 w.
		{1001, 1, ratio, 1, false, true}, {1002, 1, ratio, 1, true, true}, {1002001, 1, ratio, 1, true, true}, {1002002, 1, ratio, 1, true, false},
		{1001, 1000, 1, ratio, false, true}, {1002001, ratio, 1, ratio, true, true}, {1002002, ratio, 1, ratio, true, false},
	})
}

func TestAboveAndBoundRefuse(t *testing.T) {
	// Without the limits, each number that is refused would make one of the two true.
	testRatios(t, []ratioCase{
		{-1, 0, 2, 1, false, false}, {-1, 5, 2, 1, false, false}, {5, -1, 2, 1, false, false}, {-5, -4, 2, 1, false, false}, {0, -1, 2, 1, false, false},
		{whole + 1, 0, 2, 1, false, false}, {whole + 1, whole, 2, 1, false, false}, {0, whole + 1, 2, 1, false, false}, {5, whole + 1, 2, 1, false, false},
		{5, 1, -1, 1, false, false}, {1, 5, -1, 1, false, false}, {5, 0, ratio + 1, 1, false, false}, {5, 1, ratio + 1, 1, false, false},
		{5, 1, 1, 0, false, false}, {1, 5, 1, 0, false, false}, {5, 1, 1, -1, false, false}, {1, 5, 1, -1, false, false},
		{5, 1, 1, ratio + 1, false, false}, {1, 5, 1, ratio + 1, false, false},
		{least, least, least, least, false, false}, {greatest, greatest, greatest, greatest, false, false}, {greatest, least, 1, 1, false, false},
		{least, 1, 1, 1, false, false}, {1, greatest, 1, 1, false, false}, {1, 5, least, 1, false, false}, {1, 5, greatest, 1, false, false}, {1, 5, 1, least, false, false},
	})
}

func TestAboveAndBoundAgainstExactNumbers(t *testing.T) {
	source := rand.New(rand.NewSource(22))
	for range 20000 {
		w, p, q := source.Int63n(whole+1), source.Int63n(ratio+1), 1+source.Int63n(ratio)
		if source.Intn(2) == 0 {
			w = source.Int63n(2000)
		}
		factor := 1 + math.Sqrt(float64(p)/float64(q))
		for _, line := range []float64{factor, factor * factor} {
			v := int64(min(whole, float64(w)*line)) + source.Int63n(5) - 2
			compareRatios(t, v, w, p, q)
		}
	}
}

func compareRatios(t *testing.T, v, w, p, q int64) {
	t.Helper()
	difference, times := big.NewInt(v-w), big.NewInt(-w)
	valid := v >= 0 && isValid(big.NewInt(v), times, p, q)
	above := valid && exactSign(difference, times, p, q) > 0
	// v * q is at most w * (root(q) + root(p)) squared, which is w * (q + p) + 2 * w * q * root(p / q).
	rest := big.NewInt((v-w)*q - w*p)
	bound := valid && exactSign(rest, big.NewInt(-2*w*q), p, q) <= 0
	testRatios(t, []ratioCase{{v, w, p, q, above, bound}})
}
