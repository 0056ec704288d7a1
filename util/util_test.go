package util

import (
	"math"
	"math/big"
	"math/rand"
	"slices"
	"strings"
	"testing"

	"tocsin/api"
)

// outside are numbers that are neither a need nor a period.
func outside() []int {
	return []int{math.MinInt, math.MinInt + 1, -1 << 32, 1 - 1<<32, -10000, -1000, -2, -1, 0, 10001, 10002, 1 << 20, 1 << 32, 1<<32 + 1, math.MaxInt - 1, math.MaxInt}
}

// notNeeds are numbers that are no need, among them some that are periods.
func notNeeds() []int { return append(outside(), 1001, 1002, 2000, 9999, 10000) }

// notShares are shares that no period has.
func notShares() []int64 {
	return []int64{0, -1, -2, -1000, -api.One, -1 << 32, 1 - 1<<32, math.MinInt64 + 1, math.MinInt64}
}

func TestOf(t *testing.T) {
	for _, test := range []struct {
		need, period int
		want         int64
	}{
		{1, 3, 349526}, // the example
		// Whole: nothing to round.
		{1, 1, 1048576}, {1, 2, 524288}, {2, 2, 1048576}, {3, 4, 786432}, {1, 1024, 1024}, {1, 8192, 128}, {5, 1, 5242880},
		// Rounded up, by however little.
		{2, 3, 699051}, {4, 3, 1398102}, {1, 5, 209716}, {2, 5, 419431}, {3, 5, 629146}, {4, 5, 838861}, {5, 5, 1048576},
		{1, 7, 149797}, {7, 3, 2446678}, {5, 6, 873814}, {1, 1025, 1023 + 1}, {999, 1000, 1047528},
		// The ends of both ranges.
		{1, 10000, 105}, {1, 9999, 105}, {1000, 1, 1048576000}, {1000, 10000, 104858}, {999, 10000, 104753}, {1000, 9999, 104869},
		{1000, 1000, 1048576}, {1000, 1001, 1047529}, {1000, 999, 1049626},
	} {
		if got, ok := Of(test.need, test.period); got != test.want || !ok {
			t.Errorf("P12.1: Of(%d, %d): %d, %t, want %d, true", test.need, test.period, got, ok, test.want)
		}
	}
}

func TestOfWrongNumbers(t *testing.T) {
	check := func(need, period int) {
		t.Helper()
		if got, ok := Of(need, period); got != 0 || ok {
			t.Errorf("P12.1: Of(%d, %d): %d, %t, want 0, false", need, period, got, ok)
		}
	}
	for _, need := range notNeeds() {
		for _, period := range append(outside(), 1, 2, 1000, 10000) {
			check(need, period)
		}
	}
	for _, period := range outside() {
		for _, need := range []int{1, 2, 1000} {
			check(need, period)
		}
	}
}

func TestSum(t *testing.T) {
	const most = math.MaxInt64
	for _, test := range []struct {
		l    []int64
		want int64
		ok   bool
	}{
		{nil, 0, true}, {[]int64{}, 0, true},
		{[]int64{0}, 0, true}, {[]int64{0, 0, 0}, 0, true}, {[]int64{5}, 5, true}, {[]int64{1, 2, 3}, 6, true},
		{[]int64{api.One, api.One / 2, 349526}, 1922390, true},
		// A sum may be more than the whole.
		{slices.Repeat([]int64{api.One}, 1000), 1000 * api.One, true},
		{slices.Repeat([]int64{1 << 40}, 1<<16), 1 << 56, true},
		// At the greatest int64, and over it.
		{[]int64{most}, most, true}, {[]int64{most, 0}, most, true}, {[]int64{0, most, 0}, most, true},
		{[]int64{most - 1, 1}, most, true}, {[]int64{1, most - 1}, most, true}, {[]int64{1 << 62, 1<<62 - 1}, most, true},
		{[]int64{most, 1}, 0, false}, {[]int64{1, most}, 0, false}, {[]int64{most - 1, 2}, 0, false}, {[]int64{1 << 62, 1 << 62}, 0, false},
		{[]int64{most, most}, 0, false}, {[]int64{most, most, 2}, 0, false}, {[]int64{most, most, 3, 5}, 0, false},
		{[]int64{1 << 62, 1 << 62, 1 << 62, 1 << 62}, 0, false}, {[]int64{1 << 62, 1 << 62, 1 << 62, 1 << 62, 7}, 0, false},
		// A negative share, wherever it stands and whatever the sum would be.
		{[]int64{-1}, 0, false}, {[]int64{math.MinInt64}, 0, false}, {[]int64{1, -1}, 0, false}, {[]int64{-1, 1}, 0, false},
		{[]int64{10, 20, -5}, 0, false}, {[]int64{10, -5, 20}, 0, false}, {[]int64{-5, 10, 20}, 0, false}, {[]int64{0, -1, 0}, 0, false},
		{[]int64{most, 1, -1}, 0, false}, {[]int64{most, -1}, 0, false}, {[]int64{most, -1, 1}, 0, false}, {[]int64{-1, most, 1}, 0, false},
		{[]int64{most, math.MinInt64, 1}, 0, false}, {[]int64{math.MinInt64, math.MinInt64}, 0, false}, {[]int64{-3, -4}, 0, false},
	} {
		if got, ok := Sum(test.l...); got != test.want || ok != test.ok {
			t.Errorf("P12.1: Sum of %d shares %v: %d, %t, want %d, %t", len(test.l), test.l[:min(len(test.l), 5)], got, ok, test.want, test.ok)
		}
	}
}

func TestPeriod(t *testing.T) {
	for _, test := range []struct {
		need  int
		share int64
		want  int
	}{
		// Whole: nothing to round.
		{1, api.One, 1}, {1, api.One / 2, 2}, {3, api.One / 2, 6}, {1000, api.One, 1000}, {1, 128, 8192}, {5, 5 * api.One, 1},
		// Rounded up, by however little: a share that is less by one needs a longer period.
		{1, api.One + 1, 1}, {1, api.One - 1, 2}, {1, api.One/2 + 1, 2}, {1, api.One/2 - 1, 3}, {1, 349526, 3}, {1, 349525, 4},
		{2, 699051, 3}, {2, 699050, 4}, {1000, api.One - 1, 1001}, {7, api.One / 3, 22}, {7, api.One/3 + 1, 21},
		// More than the need can take.
		{1, 2 * api.One, 1}, {3, 4 * api.One, 1}, {1000, 1000 * api.One, 1}, {1000, 1000*api.One - 1, 2}, {1000, 999 * api.One, 2},
		{1, 1 << 62, 1}, {1, math.MaxInt64, 1}, {1000, math.MaxInt64, 1}, {1000, 1<<32 + 1, 1},
		// The longest periods.
		{1, 105, 9987}, {1000, 104858, 10000}, {1000, 104859, 10000}, {1000, 104868, 10000}, {1000, 104869, 9999},
		{125, 13108, 10000}, {2, 210, 9987},
	} {
		if got, ok := Period(test.need, test.share); got != test.want || !ok {
			t.Errorf("P12.1: Period(%d, %d): %d, %t, want %d, true", test.need, test.share, got, ok, test.want)
		}
	}
}

func TestPeriodWrongNumbers(t *testing.T) {
	check := func(need int, share int64) {
		t.Helper()
		if got, ok := Period(need, share); got != 0 || ok {
			t.Errorf("P12.1: Period(%d, %d): %d, %t, want 0, false", need, share, got, ok)
		}
	}
	for _, need := range notNeeds() {
		for _, share := range append(notShares(), 1, 349526, api.One, math.MaxInt64) {
			check(need, share)
		}
	}
	for _, share := range notShares() {
		for _, need := range []int{1, 2, 1000} {
			check(need, share)
		}
	}
	// Longer than the longest.
	for need, shares := range map[int][]int64{
		1:    {1, 2, 3, 103, 104},
		2:    {1, 2, 208, 209},
		125:  {1, 13107},
		999:  {1, 104752},
		1000: {1, 244, 245, 1000, 104856, 104857},
	} {
		for _, share := range shares {
			check(need, share)
		}
	}
}

// TestPeriodIsTheLeast: the share of the period is at most the one given, and that of the period before is not.
func TestPeriodIsTheLeast(t *testing.T) {
	random := rand.New(rand.NewSource(12))
	least, none := 0, 0
	for range 100000 {
		need := 1 + random.Intn(1000)
		share := 1 + random.Int63n(1<<(10+random.Intn(22)))
		period, ok := Period(need, share)
		if !ok {
			none++
			if of, _ := Of(need, api.MaxTick); of <= share || period != 0 {
				t.Fatalf("P12.1: Period(%d, %d): %d, false, but the longest has the share %d", need, share, period, of)
			}
			continue
		}
		if of, good := Of(need, period); !good || of > share {
			t.Fatalf("P12.1: Period(%d, %d): %d, but that has the share %d, %t", need, share, period, of, good)
		}
		if period == 1 {
			continue
		}
		least++
		if of, _ := Of(need, period-1); of <= share {
			t.Fatalf("P12.1: Period(%d, %d): %d, but the one before has the share %d", need, share, period, of)
		}
	}
	// Lest the shares were all of one kind.
	if least < 20000 || none < 20000 {
		t.Errorf("of 100000 random shares %d have a period longer than 1, and %d have none: too few", least, none)
	}
}

// modelUp returns a * b / c rounded up, exactly, for numbers of which none is less than 1.
func modelUp(a, b, c int64) int64 {
	product := new(big.Int).Mul(big.NewInt(a), big.NewInt(b))
	up, rest := new(big.Int).QuoRem(product, big.NewInt(c), new(big.Int))
	if rest.Sign() > 0 {
		up.Add(up, big.NewInt(1))
	}
	return up.Int64()
}

func TestAllNeedsAndManyPeriodsAgainstModel(t *testing.T) {
	for need := 1; need <= api.MaxWork; need++ {
		for period := 1; period <= api.MaxTick; period += 1 + period/8 {
			want := modelUp(int64(need), api.One, int64(period))
			if got, ok := Of(need, period); got != want || !ok {
				t.Fatalf("P12.1: Of(%d, %d): %d, %t, want %d, true", need, period, got, ok, want)
			}
			// The share was rounded up, so it may have a shorter period, but never a longer one.
			least := modelUp(int64(need), api.One, want)
			if got, ok := Period(need, want); int64(got) != least || !ok || got > period {
				t.Fatalf("P12.1: Period(%d, %d): %d, %t, want %d, true", need, want, got, ok, least)
			}
		}
	}
}

func TestText(t *testing.T) {
	for _, test := range []struct {
		share int64
		want  string
	}{
		{api.One / 2, "0.500"}, // the example
		{0, "0.000"}, {api.One, "1.000"}, {api.One / 4, "0.250"}, {api.One / 8, "0.125"}, {3*api.One + api.One/4, "3.250"},
		{7 * api.One, "7.000"}, {64 * api.One, "64.000"}, {1000 * api.One, "1000.000"},
		// Rounded down, with zeros before and after.
		{1, "0.000"}, {1048, "0.000"}, {1049, "0.001"}, {2097, "0.001"}, {2098, "0.002"}, {10485, "0.009"}, {10486, "0.010"},
		{104857, "0.099"}, {104858, "0.100"}, {349526, "0.333"}, {699051, "0.666"}, {api.One / 16, "0.062"},
		{api.One - 1049, "0.998"}, {api.One - 1048, "0.999"}, {api.One - 1, "0.999"}, {api.One + 1, "1.000"}, {api.One + 1049, "1.001"},
		{10*api.One - 1, "9.999"}, {10*api.One + 10486, "10.010"},
		// Negative: the absolute value is rounded down.
		{-api.One / 2, "-0.500"}, {-api.One, "-1.000"}, {-1, "-0.000"}, {-1048, "-0.000"}, {-1049, "-0.001"}, {-349526, "-0.333"},
		{1 - api.One, "-0.999"}, {-1 - api.One, "-1.000"}, {-3*api.One - api.One/4, "-3.250"},
		// The ends of the range.
		{math.MaxInt64, "8796093022207.999"}, {math.MaxInt64 - api.One + 1, "8796093022207.000"}, {math.MaxInt64 - api.One, "8796093022206.999"},
		{math.MinInt64 + 1, "-8796093022207.999"}, {math.MinInt64 + 2, "-8796093022207.999"}, {math.MinInt64 + api.One, "-8796093022207.000"},
		{math.MinInt64, "-"},
	} {
		if got := Text(test.share); got != test.want {
			t.Errorf("P12.1: Text(%d): %q, want %q", test.share, got, test.want)
		}
	}
}

// modelText lets exact fractions write more digits than the share has, and cuts them off.
func modelText(share int64) string {
	whole := big.NewRat(share, api.One).FloatString(20)
	return whole[:strings.Index(whole, ".")+4]
}

func TestRandomSharesAgainstModel(t *testing.T) {
	random := rand.New(rand.NewSource(13))
	for range 50000 {
		share := int64(random.Uint64()) >> random.Intn(64)
		if want, got := modelText(share), Text(share); share != math.MinInt64 && got != want {
			t.Fatalf("P12.1: Text(%d): %q, want %q", share, got, want)
		}
	}
	// Each share less than One, with and without a whole and a sign.
	for part := int64(0); part < api.One; part += 7 {
		for _, share := range []int64{part, -part, 12*api.One + part} {
			if want, got := modelText(share), Text(share); got != want {
				t.Fatalf("P12.1: Text(%d): %q, want %q", share, got, want)
			}
		}
	}
}

func TestRandomSumsAgainstModel(t *testing.T) {
	random := rand.New(rand.NewSource(14))
	added, refused := 0, 0
	for range 50000 {
		l := make([]int64, random.Intn(6))
		sum, negative := new(big.Int), false
		for i := range l {
			l[i] = random.Int63() >> random.Intn(4)
			if random.Intn(20) == 0 {
				l[i] = -l[i]
			}
			negative = negative || l[i] < 0
			sum.Add(sum, big.NewInt(l[i]))
		}
		want, ok := int64(0), !negative && sum.IsInt64()
		if ok {
			want = sum.Int64()
			added++
		} else {
			refused++
		}
		if got, good := Sum(l...); got != want || good != ok {
			t.Fatalf("P12.1: Sum of %v: %d, %t, want %d, %t", l, got, good, want, ok)
		}
	}
	// Lest the lists were all of one kind.
	if added < 10000 || refused < 10000 {
		t.Errorf("of 50000 random lists %d have a sum, and %d have none: too few", added, refused)
	}
}

// TestArgumentsAreLeftAlone: R4: the list stays as it is, with its spare capacity.
func TestArgumentsAreLeftAlone(t *testing.T) {
	whole := []int64{5, math.MaxInt64, 3, -1, 0, 7}
	kept := slices.Clone(whole)
	for n := range whole {
		Sum(whole[:n]...)
	}
	if !slices.Equal(whole, kept) {
		t.Errorf("R4: the list was changed: %v, want %v", whole, kept)
	}
}
