package ring

import (
	"math"
	"math/rand"
	"testing"

	"tocsin/api"
)

// newRing makes a history, which must be taken and be empty.
func newRing(t *testing.T, size int) *Ring {
	t.Helper()
	r, errno := New(size)
	if r == nil || errno != api.OK {
		t.Fatalf("P7.1: New(%d): %v, %d, want a history, OK", size, r, errno)
	}
	holds(t, r)
	return r
}

// adds appends the elements one by one.
func adds(r *Ring, elements ...bool) {
	for _, yes := range elements {
		r.Add(yes)
	}
}

// isAt checks what At answers for one place.
func isAt(t *testing.T, r *Ring, back int, want, wantOK bool) {
	t.Helper()
	if yes, ok := r.At(back); yes != want || ok != wantOK {
		t.Fatalf("P7.1: At(%d): %t, %t, want %t, %t", back, yes, ok, want, wantOK)
	}
}

// holds checks that the history is exactly the elements, the oldest one first, in all that it tells.
func holds(t *testing.T, r *Ring, elements ...bool) {
	t.Helper()
	yes, word, weight := 0, uint64(0), uint64(1)
	for back := range elements {
		element := elements[len(elements)-1-back]
		if element {
			yes++
			word += weight
		}
		weight *= 2
		isAt(t, r, back, element, true)
	}
	if r.Len() != len(elements) || r.Yes() != yes || r.Bits() != word {
		t.Fatalf("P7.1: Len, Yes, Bits: %d, %d, %#x, want %d, %d, %#x", r.Len(), r.Yes(), r.Bits(), len(elements), yes, word)
	}
	for _, back := range []int{math.MinInt, -64, -1, len(elements), len(elements) + 1, 64, 65, 1 << 32, math.MaxInt} {
		isAt(t, r, back, false, false)
	}
}

// repeated is a list of n times the same element.
func repeated(yes bool, n int) []bool {
	list := make([]bool, n)
	for i := range list {
		list[i] = yes
	}
	return list
}

func TestNewRefusesWrongSize(t *testing.T) {
	for _, size := range []int{math.MinInt, -64, -1, 0, api.MaxRing + 1, 128, 1 << 32, math.MaxInt} {
		if r, errno := New(size); r != nil || errno != api.EARG {
			t.Errorf("P7.1: New(%d): %v, %d, want nil, EARG", size, r, errno)
		}
	}
}

func TestBitsOfTheExample(t *testing.T) {
	for _, size := range []int{3, 4, api.MaxRing} {
		r := newRing(t, size)
		adds(r, true, false, true)
		if got := r.Bits(); got != 5 {
			t.Errorf("P7.1: Bits of the example, size %d: %d, want 5", size, got)
		}
		holds(t, r, true, false, true)
	}
}

// TestBits: the last element is the lowest bit, and the oldest ones fall out at the size.
func TestBits(t *testing.T) {
	cases := []struct {
		size int
		all  []bool
		want uint64
	}{
		{3, []bool{true}, 1},
		{3, []bool{false}, 0},
		{3, []bool{true, false}, 2},
		{3, []bool{false, true}, 1},
		{3, []bool{true, true, false}, 6},
		{3, []bool{true, true, false, false}, 4},
		{3, []bool{true, true, false, false, false}, 0},
		{3, []bool{false, false, false, true}, 1},
		{1, []bool{true, false}, 0},
		{1, []bool{false, true}, 1},
		{2, []bool{true, true, true}, 3},
		{api.MaxRing, repeated(true, api.MaxRing), math.MaxUint64},
		{api.MaxRing, append(repeated(true, api.MaxRing), false), math.MaxUint64 - 1},
		{api.MaxRing, append([]bool{true}, repeated(false, api.MaxRing-1)...), 1 << 63},
		{api.MaxRing, append([]bool{true}, repeated(false, api.MaxRing)...), 0},
		{api.MaxRing - 1, repeated(true, api.MaxRing), 1<<63 - 1},
	}
	for _, test := range cases {
		r := newRing(t, test.size)
		adds(r, test.all...)
		if got := r.Bits(); got != test.want {
			t.Errorf("P7.1: Bits, size %d, after %v: %#x, want %#x", test.size, test.all, got, test.want)
		}
		holds(t, r, test.all[max(0, len(test.all)-test.size):]...)
	}
}

// TestOneElementPasses: in a history of any size, the one that differs goes through all places and then is removed.
func TestOneElementPasses(t *testing.T) {
	for size := 1; size <= api.MaxRing; size++ {
		for _, yes := range []bool{true, false} {
			r := newRing(t, size)
			adds(r, repeated(!yes, size)...)
			holds(t, r, repeated(!yes, size)...)
			want := append(repeated(!yes, size-1), yes)
			r.Add(yes)
			for range size {
				holds(t, r, want...)
				want = append(want[1:], !yes)
				r.Add(!yes)
			}
			holds(t, r, repeated(!yes, size)...)
		}
	}
}

// TestFalseElementsCount: elements that are false are elements, up to the size and no further.
func TestFalseElementsCount(t *testing.T) {
	for _, size := range []int{1, 2, 5, api.MaxRing - 1, api.MaxRing} {
		r := newRing(t, size)
		for n := 1; n <= 3*size; n++ {
			r.Add(false)
			holds(t, r, repeated(false, min(n, size))...)
		}
	}
}

// TestTellingChangesNothing: a history answers the same however often it is asked, and goes on as if it had not been.
func TestTellingChangesNothing(t *testing.T) {
	r := newRing(t, 3)
	adds(r, true, true, false, true)
	for range 5 {
		holds(t, r, true, false, true)
	}
	r.Add(false)
	holds(t, r, false, true, false)
}

// TestRingsAreApart: what one history is told, another one does not see.
func TestRingsAreApart(t *testing.T) {
	r, s := newRing(t, 2), newRing(t, 2)
	adds(r, true, true, true)
	holds(t, s)
	s.Add(false)
	holds(t, r, true, true)
	holds(t, s, false)
}

// TestAgainstAList adds random elements to histories of all sizes, and to a list that is cut at its front.
func TestAgainstAList(t *testing.T) {
	random := rand.New(rand.NewSource(7))
	for size := 1; size <= api.MaxRing; size++ {
		r := newRing(t, size)
		var list []bool
		for n := range 400 {
			yes := random.Intn(2+n/100) == 0
			r.Add(yes)
			list = append(list, yes)
			holds(t, r, list[max(0, len(list)-size):]...)
		}
	}
}
