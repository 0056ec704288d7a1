package fate

import (
	"math"
	"math/rand"
	"slices"
	"testing"

	"tocsin/api"
)

// kinds are the outcomes that may be recorded.
func kinds() []int {
	return []int{api.Met, api.Aborted, api.Shed, api.Refused, api.Expired}
}

// noKinds are numbers that no outcome has.
func noKinds() []int {
	return []int{math.MinInt, -6, -5, -2, -1, 6, 7, 8, 100, 256, 257, 1<<32 + 1, math.MaxInt}
}

// outside are the numbers of no job among that many.
func outside(jobs int) []int {
	return []int{math.MinInt, math.MinInt + 1, -jobs - 1, -jobs - 2, -2, -1, jobs, jobs + 1, api.MaxJobs, api.MaxJobs + 1, 1 << 32, math.MaxInt}
}

// makes does a New that must do, and checks that the book is a fresh one.
func makes(t *testing.T, jobs int) *Book {
	t.Helper()
	b, errno := New(jobs)
	if b == nil || errno != api.OK {
		t.Fatalf("P15.1: New(%d): %v, %d", jobs, b, errno)
	}
	holds(t, b, make([]api.Fate, jobs))
	return b
}

// says does a Say, and checks what it answers.
func says(t *testing.T, b *Book, i, kind, at int, want api.Errno) {
	t.Helper()
	if errno := b.Say(i, kind, at); errno != want {
		t.Fatalf("P15.1: Say(%d, %d, %d): %d, want %d", i, kind, at, errno, want)
	}
}

// holds checks that the book is of exactly those outcomes, in all that it tells.
func holds(t *testing.T, b *Book, fates []api.Fate) {
	t.Helper()
	if got := b.All(); !slices.Equal(got, fates) {
		t.Fatalf("P15.1: All: %v, want %v", got, fates)
	}
	open := []int{}
	counts := map[int]int{}
	for i, want := range fates {
		counts[want.Kind]++
		if want.Kind == api.Waits {
			open = append(open, i)
		}
		if f, ok := b.Of(i); f != want || !ok {
			t.Fatalf("P15.1: Of(%d): %v, %t, want %v, true", i, f, ok, want)
		}
	}
	if got := b.Open(); !slices.Equal(got, open) {
		t.Fatalf("P15.1: Open: %v, want %v", got, open)
	}
	for _, kind := range append(append(kinds(), noKinds()...), api.Waits) {
		if got := b.Count(kind); got != counts[kind] {
			t.Fatalf("P15.1: Count(%d): %d, want %d", kind, got, counts[kind])
		}
	}
	for _, i := range outside(len(fates)) {
		if i >= 0 && i < len(fates) {
			continue
		}
		if f, ok := b.Of(i); f != (api.Fate{}) || ok {
			t.Fatalf("P15.1: Of(%d) of %d jobs: %v, %t, want none", i, len(fates), f, ok)
		}
	}
}

func TestNew(t *testing.T) {
	for jobs := range api.MaxJobs + 1 {
		makes(t, jobs)
	}
	for _, jobs := range []int{math.MinInt, -api.MaxJobs, -2, -1, api.MaxJobs + 1, api.MaxJobs + 2, 1 << 32, math.MaxInt} {
		if b, errno := New(jobs); b != nil || errno != api.EARG {
			t.Errorf("P15.1: New(%d): %v, %d, want nil, EARG", jobs, b, errno)
		}
	}
}

func TestBooksAreApart(t *testing.T) {
	one, other := makes(t, 2), makes(t, 2)
	says(t, one, 0, api.Met, 5, api.OK)
	holds(t, other, make([]api.Fate, 2))
	says(t, other, 0, api.Shed, 6, api.OK)
	holds(t, one, []api.Fate{{Kind: api.Met, At: 5}, {}})
	holds(t, other, []api.Fate{{Kind: api.Shed, At: 6}, {}})
}

func TestSayOfTheExample(t *testing.T) {
	b := makes(t, 1)
	says(t, b, 0, api.Met, 5, api.OK)
	says(t, b, 0, api.Shed, 6, api.EEXIST)
	holds(t, b, []api.Fate{{Kind: api.Met, At: 5}})
}

func TestSayOfEachKind(t *testing.T) {
	// Ticks need not be less than api.MaxTick, nor in any order.
	for _, at := range []int{0, 1, 7, api.MaxTick, api.MaxTick + 1, 1 << 40, math.MaxInt} {
		for _, kind := range kinds() {
			for i := range 3 {
				b, want := makes(t, 3), make([]api.Fate, 3)
				says(t, b, i, kind, at, api.OK)
				want[i] = api.Fate{Kind: kind, At: at}
				holds(t, b, want)
			}
		}
	}
}

func TestSayOfEveryJob(t *testing.T) {
	// From the last to the first, so that the order is the one of the jobs.
	b, want := makes(t, api.MaxJobs), make([]api.Fate, api.MaxJobs)
	for i := api.MaxJobs - 1; i >= 0; i-- {
		says(t, b, i, 1+i%5, 3*i, api.OK)
		want[i] = api.Fate{Kind: 1 + i%5, At: 3 * i}
		holds(t, b, want)
	}
	for i := range api.MaxJobs {
		says(t, b, i, 1+(i+1)%5, i, api.EEXIST)
	}
	holds(t, b, want)
}

func TestOutcomesAreRecordedOnce(t *testing.T) {
	for _, first := range kinds() {
		for _, second := range kinds() {
			// The same one, at the same tick too.
			for _, at := range []int{0, 3, 4, 5, math.MaxInt} {
				b := makes(t, 2)
				says(t, b, 1, first, 4, api.OK)
				says(t, b, 1, second, at, api.EEXIST)
				holds(t, b, []api.Fate{{}, {Kind: first, At: 4}})
			}
		}
		// An outcome at tick 0 is one.
		b := makes(t, 2)
		says(t, b, 0, first, 0, api.OK)
		says(t, b, 0, first, 0, api.EEXIST)
		says(t, b, 0, first, 1, api.EEXIST)
		holds(t, b, []api.Fate{{Kind: first}, {}})
	}
}

func TestErrorsInOrder(t *testing.T) {
	// Job 1 has an outcome and the others wait: EARG is ahead of EEXIST.
	b, want := makes(t, 3), []api.Fate{{}, {Kind: api.Aborted, At: 9}, {}}
	says(t, b, 1, api.Aborted, 9, api.OK)
	refuses := func(i, kind, at int, errno api.Errno) {
		t.Helper()
		says(t, b, i, kind, at, errno)
		holds(t, b, want)
	}
	for i := range 3 {
		for _, at := range []int{0, 9, math.MaxInt} {
			refuses(i, api.Waits, at, api.EARG)
			for _, kind := range noKinds() {
				refuses(i, kind, at, api.EARG)
			}
		}
		for _, kind := range append(kinds(), api.Waits, 6) {
			for _, at := range []int{math.MinInt, -9, -1} {
				refuses(i, kind, at, api.EARG)
			}
		}
	}
	for _, i := range outside(3) {
		for _, kind := range append(kinds(), api.Waits, 6, -1) {
			refuses(i, kind, 9, api.EARG)
			refuses(i, kind, -1, api.EARG)
		}
	}
	for _, kind := range kinds() {
		refuses(1, kind, 9, api.EEXIST)
	}
	// What was refused holds nothing up.
	says(t, b, 0, api.Met, 2, api.OK)
	says(t, b, 2, api.Refused, 0, api.OK)
	holds(t, b, []api.Fate{{Kind: api.Met, At: 2}, want[1], {Kind: api.Refused}})
}

func TestNoJobs(t *testing.T) {
	b := makes(t, 0)
	for _, i := range outside(0) {
		says(t, b, i, api.Met, 1, api.EARG)
	}
	says(t, b, 0, api.Waits, -1, api.EARG)
	holds(t, b, nil)
}

func TestAnswersAreNewMemory(t *testing.T) {
	for _, jobs := range []int{0, 1, 2, 3, 5, 7, 8, 17, 100, api.MaxJobs} {
		b, want := makes(t, jobs), make([]api.Fate, jobs)
		// At each number of open jobs, as the capacity is not the same at all of them.
		for i := range jobs {
			spoil(b)
			holds(t, b, want)
			all, open := b.All(), b.Open()
			says(t, b, i, api.Met, i, api.OK)
			// An answer is what was so when it was asked.
			if !slices.Equal(all, want) || len(open) != jobs-i || open[0] != i {
				t.Fatalf("R4: All and Open after a later call: %v, %v", all, open)
			}
			want[i] = api.Fate{Kind: api.Met, At: i}
		}
		spoil(b)
		holds(t, b, want)
	}
}

// spoil writes to the lists that the book answers, and to their spare capacity.
func spoil(b *Book) {
	all, open := b.All(), b.Open()
	all, open = all[:cap(all)], open[:cap(open)]
	for k := range all {
		all[k] = api.Fate{Kind: api.Shed, At: 77}
	}
	for k := range open {
		open[k] = 77
	}
}

func TestRandomCallsAgainstModel(t *testing.T) {
	random := rand.New(rand.NewSource(15))
	seen := map[api.Errno]int{}
	for range 500 {
		jobs := random.Intn(12)
		b, want := makes(t, jobs), make([]api.Fate, jobs)
		for range random.Intn(30) {
			i, kind, at := random.Intn(jobs+2)-1, random.Intn(7), random.Intn(20)-1
			errno := api.OK
			switch {
			case i < 0, i >= jobs, !slices.Contains(kinds(), kind), at < 0:
				errno = api.EARG
			case want[i] != api.Fate{}:
				errno = api.EEXIST
			default:
				want[i] = api.Fate{Kind: kind, At: at}
			}
			says(t, b, i, kind, at, errno)
			seen[errno]++
		}
		holds(t, b, want)
	}
	for _, errno := range []api.Errno{api.OK, api.EARG, api.EEXIST} {
		if seen[errno] < 500 {
			t.Errorf("the random calls answer %d only %d times", errno, seen[errno])
		}
	}
}
