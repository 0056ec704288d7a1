package over

import (
	"math"
	"math/rand"
	"slices"
	"testing"

	"tocsin/api"
	"tocsin/job"
)

// takes is a valid job with that charge, which has no cleanup.
func takes(release, deadline, charge int) job.Job {
	return job.Job{Name: "a", Release: release, Deadline: deadline, Budget: charge, Actual: charge}
}

// clip is a valid job of which budget, actual and clean differ.
func clip(release, deadline, budget, actual, clean int) job.Job {
	return job.Job{Name: "b", Release: release, Deadline: deadline, Budget: budget, Actual: actual, Clean: clean}
}

// span is the span between the two ticks.
func span(from, to int) Span { return Span{From: from, To: to} }

// notValid are lists of jobs for which job.All is false, by what is wrong in them. Most of what is valid in them is an overload.
func notValid() map[string][]job.Job {
	return map[string][]job.Job{
		"an empty job":        {{}},
		"a fault in the last": {takes(0, 2, 9), takes(0, 2, 9), takes(0, api.MaxTick+1, 1)},
		"a fault in another":  {{}, takes(0, 2, 9)},
		"too many jobs":       slices.Repeat([]job.Job{takes(0, 9, 1)}, api.MaxJobs+1),
		"no name":             {{Deadline: 2, Budget: 9, Actual: 9}},
		"a negative release":  {takes(-1, 2, 9)},
		"a far release":       {takes(math.MinInt, 2, 9)},
		"no room":             {takes(4, 4, 9)},
		"a deadline before":   {takes(4, 3, 9)},
		"no work":             {takes(0, 9, 0), takes(0, 2, 9)},
		"too much work":       {takes(0, 9, api.MaxWork+1)},
		"too great an actual": {clip(0, 2, 9, math.MaxInt, 0)},
		"too long a cleanup":  {clip(0, 2, 9, 9, api.MaxClean+1)},
		"a negative cleanup":  {clip(0, 2, 9, 9, -1)},
	}
}

// loadIs checks Load for the list and the span.
func loadIs(t *testing.T, l []job.Job, from, to, want int) {
	t.Helper()
	if got := Load(l, from, to); got != want {
		t.Errorf("P18.1: Load(%+v, %d, %d): %d, want %d", l[:min(len(l), 4)], from, to, got, want)
	}
}

// spansAre checks Spans for the list.
func spansAre(t *testing.T, l []job.Job, want ...Span) {
	t.Helper()
	if got := Spans(l); !slices.Equal(got, want) {
		t.Errorf("P18.1: Spans(%+v): %v, want %v", l[:min(len(l), 8)], got, want)
	}
}

// worstIs checks Worst for a list of valid jobs.
func worstIs(t *testing.T, l []job.Job, from, to, most int) {
	t.Helper()
	if got, n, ok := Worst(l); got != span(from, to) || n != most || !ok {
		t.Errorf("P18.1: Worst(%+v): %v, %d, %t, want {%d %d}, %d, true", l[:min(len(l), 8)], got, n, ok, from, to, most)
	}
}

// nothingOf checks that there is nothing to be told of the list.
func nothingOf(t *testing.T, label string, l []job.Job) {
	t.Helper()
	for _, s := range []Span{{0, 0}, {0, 2}, {0, 9}, {0, api.MaxTick}, {math.MinInt, math.MaxInt}} {
		if got := Load(l, s.From, s.To); got != 0 {
			t.Errorf("P18.1: %s: Load from %d to %d: %d, want 0", label, s.From, s.To, got)
		}
	}
	if got := Spans(l); len(got) != 0 {
		t.Errorf("P18.1: %s: Spans: %v, want nothing", label, got)
	}
	if got, n, ok := Worst(l); got != (Span{}) || n != 0 || ok {
		t.Errorf("P18.1: %s: Worst: %v, %d, %t, want {0 0}, 0, false", label, got, n, ok)
	}
}

func TestListsOfWhichNothingIsTold(t *testing.T) {
	for label, l := range notValid() {
		nothingOf(t, label, l)
	}
	nothingOf(t, "nil", nil)
	nothingOf(t, "no jobs", []job.Job{})
}

func TestLoad(t *testing.T) {
	l := []job.Job{takes(0, 3, 1), takes(1, 4, 10), takes(3, 9, 100), takes(0, 3, 1000)}
	for _, test := range []struct{ from, to, want int }{
		{0, 9, 1111},
		{0, 3, 1001},
		{0, 2, 0},
		{0, 4, 1011},
		{1, 4, 10},
		{1, 3, 0},
		{2, 4, 0},
		{1, 9, 110},
		{2, 9, 100},
		{3, 9, 100},
		{3, 8, 0},
		{4, 9, 0},
		{0, 0, 0},
		{9, 0, 0},
		{4, 3, 0},
		{-1, 3, 1001},
		{-9, 99, 1111},
		{0, math.MaxInt, 1111},
		{1, math.MaxInt, 110},
		{math.MinInt, 3, 1001},
		{math.MinInt, 2, 0},
		{math.MinInt, math.MaxInt, 1111},
		{math.MaxInt, math.MinInt, 0},
		{math.MaxInt, math.MaxInt, 0},
		{math.MinInt, math.MinInt, 0},
		{0, 1<<32 + 3, 1111}, // not cut to 32 bits
	} {
		loadIs(t, l, test.from, test.to, test.want)
	}
}

// TestLoadOfCharges: the charge counts, not what is needed, nor the work, nor how long there is.
func TestLoadOfCharges(t *testing.T) {
	for _, test := range []struct{ budget, actual, clean, want int }{
		{3, 1, 0, 3},
		{3, 1, 2, 5},
		{3, 3, 2, 5},
		{3, 4, 2, 5},
		{3, 900, 0, 3},
		{1, 1, api.MaxClean, 1 + api.MaxClean},
		{api.MaxWork, 1, api.MaxClean, api.MaxWork + api.MaxClean},
	} {
		for _, deadline := range []int{1, 5, api.MaxTick} {
			l := []job.Job{clip(0, deadline, test.budget, test.actual, test.clean)}
			loadIs(t, l, 0, deadline, test.want)
			worstIs(t, l, 0, deadline, test.want-deadline)
		}
	}
	most := slices.Repeat([]job.Job{clip(0, api.MaxTick, api.MaxWork, 1, api.MaxClean)}, api.MaxJobs)
	loadIs(t, most, 0, api.MaxTick, api.MaxJobs*(api.MaxWork+api.MaxClean))
	worstIs(t, most, 0, api.MaxTick, api.MaxJobs*(api.MaxWork+api.MaxClean)-api.MaxTick)
	spansAre(t, most, span(0, api.MaxTick))
}

// TestLoadOfAll: neither whether a job is hard nor what it is worth is of any matter.
func TestLoadOfAll(t *testing.T) {
	for _, hard := range []bool{false, true} {
		for _, value := range []int{0, 1, api.MaxValue} {
			l := []job.Job{takes(2, 5, 4), takes(2, 5, 1)}
			l[0].Hard, l[0].Value = hard, value
			loadIs(t, l, 2, 5, 5)
			spansAre(t, l, span(2, 5))
			worstIs(t, l, 2, 5, 2)
		}
	}
}

func TestExample(t *testing.T) {
	spansAre(t, []job.Job{takes(0, 3, 2), takes(0, 3, 2)}, span(0, 3))
}

func TestSpans(t *testing.T) {
	for _, test := range []struct {
		l    []job.Job
		want []Span
	}{
		{[]job.Job{takes(0, 3, 2)}, nil},
		{[]job.Job{takes(0, 3, 3)}, nil}, // all there is, but no more
		{[]job.Job{takes(0, 3, 4)}, []Span{{0, 3}}},
		{[]job.Job{takes(7, 8, 2)}, []Span{{7, 8}}},
		{[]job.Job{takes(0, 3, 2), takes(0, 3, 1)}, nil},
		{[]job.Job{takes(0, 3, 2), takes(1, 4, 2)}, nil},            // 4 in 4
		{[]job.Job{takes(0, 3, 3), takes(1, 4, 2)}, []Span{{0, 4}}}, // 5 in 4, though neither is too much alone
		{[]job.Job{takes(1, 4, 2), takes(0, 3, 3)}, []Span{{0, 4}}},
		// One within the other.
		{[]job.Job{takes(0, 9, 1), takes(3, 5, 3)}, []Span{{3, 5}}},
		{[]job.Job{takes(0, 9, 7), takes(3, 5, 3)}, []Span{{0, 9}}},
		{[]job.Job{takes(3, 5, 3), takes(1, 6, 3)}, []Span{{1, 6}}},
		{[]job.Job{takes(0, 9, 10), takes(2, 4, 3), takes(5, 6, 2)}, []Span{{0, 9}}},
		// Adjacent ones.
		{[]job.Job{takes(0, 2, 3), takes(2, 4, 3)}, []Span{{0, 4}}},
		{[]job.Job{takes(0, 3, 1), takes(1, 3, 3), takes(3, 5, 3), takes(3, 6, 1)}, []Span{{0, 6}}},
		{[]job.Job{takes(1, 3, 3), takes(3, 5, 3), takes(0, 9, 1)}, []Span{{0, 5}}}, // 6 in 5, from the release of a job that is not in it
		{[]job.Job{takes(1, 3, 3), takes(3, 5, 3), takes(0, 9, 4)}, []Span{{0, 9}}}, // 10 in 9
		{[]job.Job{takes(0, 2, 3), takes(2, 4, 1)}, []Span{{0, 2}}},                 // 4 in 4
		{[]job.Job{takes(0, 2, 1), takes(2, 4, 3)}, []Span{{2, 4}}},
		// A tick between them.
		{[]job.Job{takes(0, 2, 3), takes(3, 5, 3)}, []Span{{0, 5}}}, // 6 in 5: it is within both together
		{[]job.Job{takes(0, 2, 3), takes(4, 6, 3)}, []Span{{0, 2}, {4, 6}}},
		{[]job.Job{takes(4, 6, 3), takes(0, 2, 3)}, []Span{{0, 2}, {4, 6}}}, // in ascending order
		{[]job.Job{takes(0, 2, 3), takes(4, 6, 3), takes(8, 10, 3)}, []Span{{0, 2}, {4, 6}, {8, 10}}},
		{[]job.Job{takes(8, 10, 3), takes(4, 6, 3), takes(0, 2, 3)}, []Span{{0, 2}, {4, 6}, {8, 10}}},
		{[]job.Job{takes(8, 10, 3), takes(4, 6, 3), takes(0, 2, 3), takes(6, 8, 1)}, []Span{{0, 2}, {4, 10}}},
		// Overlapping ones.
		{[]job.Job{takes(3, 5, 7), takes(0, 9, 1)}, []Span{{0, 9}}}, // 8 in 9, but 7 from 0 to 5 and 7 from 3 to 9
		{[]job.Job{takes(0, 4, 5), takes(2, 6, 5)}, []Span{{0, 6}}},
		{[]job.Job{takes(0, 5, 2), takes(4, 9, 6)}, []Span{{4, 9}}},      // 8 in 9
		{[]job.Job{takes(0, 5, 4), takes(4, 9, 6)}, []Span{{0, 9}}},      // 10 in 9
		{[]job.Job{takes(1, 3, 1), takes(2, 4, 1), takes(2, 3, 1)}, nil}, // 3 in 3
		{[]job.Job{takes(1, 3, 1), takes(2, 4, 1), takes(2, 3, 1), takes(3, 4, 1)}, []Span{{1, 4}}},
		// Any number of jobs with one release and one deadline.
		{slices.Repeat([]job.Job{takes(5, 9, 1)}, 4), nil},
		{slices.Repeat([]job.Job{takes(5, 9, 1)}, 5), []Span{{5, 9}}},
		{slices.Repeat([]job.Job{takes(5, 9, 1)}, api.MaxJobs), []Span{{5, 9}}},
		// The first and the last tick.
		{[]job.Job{takes(0, 1, 1), takes(api.MaxTick-1, api.MaxTick, 1)}, nil},
		{[]job.Job{takes(api.MaxTick-1, api.MaxTick, 2)}, []Span{{api.MaxTick - 1, api.MaxTick}}},
		{[]job.Job{takes(0, 1, 2), takes(api.MaxTick-1, api.MaxTick, 2)}, []Span{{0, 1}, {api.MaxTick - 1, api.MaxTick}}},
	} {
		spansAre(t, test.l, test.want...)
	}
}

// TestSpansOfMostJobs: as many spans as there may be jobs, and all of them joined by one tick more.
func TestSpansOfMostJobs(t *testing.T) {
	var l []job.Job
	var want []Span
	for i := range api.MaxJobs {
		l = append(l, takes(40*i, 40*i+10, 11))
		want = append(want, span(40*i, 40*i+10))
	}
	slices.Reverse(l)
	spansAre(t, l, want...)
	worstIs(t, l, 0, 10, 1)
	for i := range l {
		l[i].Release, l[i].Deadline = 10*i, 10*i+10
	}
	spansAre(t, l, span(0, 10*api.MaxJobs))
	worstIs(t, l, 0, 10*api.MaxJobs, api.MaxJobs)
}

func TestWorst(t *testing.T) {
	for _, test := range []struct {
		l              []job.Job
		from, to, most int
	}{
		{[]job.Job{takes(0, 3, 4)}, 0, 3, 1},
		{[]job.Job{takes(0, 3, 3)}, 0, 3, 0},
		{[]job.Job{takes(0, 3, 1)}, 0, 3, -2}, // it need not be an overload
		{[]job.Job{takes(0, api.MaxTick, 1)}, 0, api.MaxTick, 1 - api.MaxTick},
		{[]job.Job{takes(5, 6, api.MaxWork)}, 5, 6, api.MaxWork - 1},
		{[]job.Job{takes(api.MaxTick-1, api.MaxTick, 1)}, api.MaxTick - 1, api.MaxTick, 0},
		{[]job.Job{takes(0, 3, 2), takes(0, 3, 2)}, 0, 3, 1},
		{[]job.Job{takes(0, 2, 3), takes(5, 7, 4)}, 5, 7, 2},
		{[]job.Job{takes(0, 2, 4), takes(5, 7, 3)}, 0, 2, 2},
		{[]job.Job{takes(0, 2, 3), takes(2, 4, 3)}, 0, 4, 2}, // both of them together
		{[]job.Job{takes(0, 9, 2), takes(2, 4, 1)}, 2, 4, -1},
		{[]job.Job{takes(0, 9, 9), takes(2, 4, 1)}, 0, 9, 1},
		// An interval from the release of one job to the deadline of another, in which no job lies.
		{[]job.Job{takes(0, 5, 1), takes(4, 9, 1)}, 4, 5, -1},
		{[]job.Job{takes(4, 9, 1), takes(0, 5, 1)}, 4, 5, -1},
		{[]job.Job{takes(0, 5, 3), takes(3, 9, 4)}, 0, 5, -2}, // not 3 to 5, which is as bad, as is 3 to 9
		{[]job.Job{takes(0, 5, 1), takes(5, 9, 1)}, 5, 9, -3}, // none from 5 to 5
		{[]job.Job{takes(5, 9, 1), takes(0, 5, 1)}, 5, 9, -3},
		// Of several the least From, and then the least To, in any order of the list.
		{[]job.Job{takes(0, 2, 3), takes(5, 7, 3)}, 0, 2, 1},
		{[]job.Job{takes(5, 7, 3), takes(0, 2, 3)}, 0, 2, 1},
		{[]job.Job{takes(0, 9, 4), takes(4, 9, 8)}, 0, 9, 3},
		{[]job.Job{takes(4, 9, 8), takes(0, 9, 4)}, 0, 9, 3},
		{[]job.Job{takes(4, 9, 8), takes(0, 9, 3)}, 4, 9, 3},
		{[]job.Job{takes(0, 2, 3), takes(0, 5, 3)}, 0, 2, 1},
		{[]job.Job{takes(0, 5, 3), takes(0, 2, 3)}, 0, 2, 1},
		{[]job.Job{takes(0, 5, 4), takes(0, 2, 3)}, 0, 5, 2},
		{[]job.Job{takes(0, 9, 7), takes(4, 6, 5)}, 0, 9, 3}, // the least From, though another To is less
		{[]job.Job{takes(4, 6, 5), takes(0, 9, 7)}, 0, 9, 3},
		{[]job.Job{takes(0, 2, 3), takes(2, 4, 2)}, 0, 2, 1},
		{[]job.Job{takes(0, 2, 2), takes(2, 4, 3)}, 0, 4, 1},
	} {
		worstIs(t, test.l, test.from, test.to, test.most)
	}
}

func TestShare(t *testing.T) {
	x := []int{0, -1, 7, 7, -1, 1}
	for _, test := range []struct{ from, to, busy, all int }{
		{0, 6, 4, 6},
		{0, 1, 1, 1},
		{1, 2, 0, 1},
		{1, 5, 2, 4},
		{2, 4, 2, 2},
		{5, 6, 1, 1},
		{0, 0, 0, 0},
		{3, 3, 0, 0},
		{6, 6, 0, 0},
		{4, 2, 0, 0},
		{1, 0, 0, 0},
		{0, -1, 0, 0},
		{-1, 0, 0, 0},
		{-1, 1, 1, 1},
		{-3, -1, 0, 0},
		{-1, -3, 0, 0},
		{5, 7, 1, 1},
		{6, 7, 0, 0},
		{7, 9, 0, 0},
		{9, 7, 0, 0},
		{9, 2, 0, 0},
		{-5, 99, 4, 6},
		{99, -5, 0, 0},
		{math.MinInt, math.MaxInt, 4, 6},
		{math.MaxInt, math.MinInt, 0, 0},
		{math.MinInt, 3, 2, 3},
		{3, math.MaxInt, 2, 3},
		{math.MinInt, math.MinInt, 0, 0},
		{math.MaxInt, math.MaxInt, 0, 0},
		{1 << 32, 1<<32 + 3, 0, 0}, // not cut to 32 bits
		{0, 1 << 32, 4, 6},
	} {
		busy, all := Share(x, test.from, test.to)
		if busy != test.busy || all != test.all {
			t.Errorf("P18.1: Share(%v, %d, %d): %d, %d, want %d, %d", x, test.from, test.to, busy, all, test.busy, test.all)
		}
		for _, none := range [][]int{nil, {}} {
			if busy, all := Share(none, test.from, test.to); busy != 0 || all != 0 {
				t.Errorf("P18.1: Share of no ticks from %d to %d: %d, %d, want 0, 0", test.from, test.to, busy, all)
			}
		}
	}
}

// TestShareOfAnyTrace: it is no matter whether there can be such a trace.
func TestShareOfAnyTrace(t *testing.T) {
	x := []int{-2, math.MinInt, -1, math.MaxInt, api.MaxJobs}
	if busy, all := Share(x, 0, 5); busy != 4 || all != 5 {
		t.Errorf("P18.1: Share(%v, 0, 5): %d, %d, want 4, 5", x, busy, all)
	}
	long := slices.Repeat([]int{-1, 4}, 2*api.MaxTick)
	if busy, all := Share(long, 1, 3*api.MaxTick); busy != 3*api.MaxTick/2 || all != 3*api.MaxTick-1 {
		t.Errorf("P18.1: Share of a long trace: %d, %d, want %d, %d", busy, all, 3*api.MaxTick/2, 3*api.MaxTick-1)
	}
	if busy, all := Share(long[:6], 0, 99); busy != 3 || all != 6 {
		t.Errorf("P18.1: Share of a trace with spare capacity: %d, %d, want 3, 6", busy, all)
	}
}

// TestIntervals: each once, by From and then by To, however many jobs have its release or its deadline.
func TestIntervals(t *testing.T) {
	l := []job.Job{takes(2, 4, 5), takes(0, 3, 2), takes(2, 3, 1), takes(0, 4, 1), takes(3, 9, 1)}
	want := map[Span]int{{0, 3}: 0, {0, 4}: 5, {0, 9}: 1, {2, 3}: 0, {2, 4}: 4, {2, 9}: 0, {3, 4}: -1, {3, 9}: -5}
	var seen []Span
	for s, excess := range intervals(l) {
		seen = append(seen, s)
		if excess != want[s] {
			t.Errorf("P18.1: the excess of %v: %d, want %d", s, excess, want[s])
		}
	}
	if !slices.Equal(seen, []Span{{0, 3}, {0, 4}, {0, 9}, {2, 3}, {2, 4}, {2, 9}, {3, 4}, {3, 9}}) {
		t.Errorf("P18.1: the intervals: %v", seen)
	}
}

// TestJoin: of overloaded intervals each two that are adjacent lie in a third one, so that Spans cannot show it.
func TestJoin(t *testing.T) {
	for _, test := range []struct {
		s    Span
		want []Span
	}{
		{span(3, 9), []Span{{0, 2}, {3, 9}}},
		{span(3, 5), []Span{{0, 2}, {3, 7}}},
		{span(6, 8), []Span{{0, 2}, {3, 8}}},
		{span(7, 8), []Span{{0, 2}, {3, 8}}},
		{span(8, 9), []Span{{0, 2}, {3, 7}, {8, 9}}},
	} {
		if got := join([]Span{{0, 2}, {3, 7}}, test.s); !slices.Equal(got, test.want) {
			t.Errorf("P18.1: 0 to 2 and 3 to 7 joined with %v: %v, want %v", test.s, got, test.want)
		}
	}
}

// TestIntervalsEnd: who asks for the intervals may stop at any of them.
func TestIntervalsEnd(t *testing.T) {
	l := []job.Job{takes(0, 3, 2), takes(1, 4, 5)}
	all := []Span{{0, 3}, {0, 4}, {1, 3}, {1, 4}}
	for n := 1; n <= len(all); n++ {
		var seen []Span
		for s := range intervals(l) {
			seen = append(seen, s)
			if len(seen) == n {
				break
			}
		}
		if !slices.Equal(seen, all[:n]) {
			t.Errorf("P18.1: the first %d intervals: %v, want %v", n, seen, all[:n])
		}
	}
}

// TestArgumentsAreLeftAlone: R4: the lists stay as they are, with their spare capacity, and the spans are new memory.
func TestArgumentsAreLeftAlone(t *testing.T) {
	jobs := []job.Job{takes(8, 10, 3), takes(4, 6, 3), takes(0, 2, 3), takes(0, 9, 9), {Name: "spare"}}
	l, kept := jobs[:3], slices.Clone(jobs)
	ticks := []int{0, 1, -1, 2, 77, 66}
	x, keptTicks := ticks[:4], slices.Clone(ticks)

	want := []Span{{0, 2}, {4, 6}, {8, 10}}
	first := Spans(l)
	second := Spans(l)
	for i := range second[:cap(second)] {
		second[:cap(second)][i] = span(-7, -7)
	}
	if !slices.Equal(first, want) {
		t.Errorf("R4: two lists of spans share memory: %v, want %v", first, want)
	}
	spansAre(t, l, want...)
	for _, s := range []Span{{0, 10}, {-9, 99}, {4, 2}, {1, 3}} {
		Load(l, s.From, s.To)
		Share(x, s.From, s.To)
	}
	Worst(l)
	if !slices.Equal(jobs, kept) {
		t.Errorf("R4: the jobs were changed: %+v, want %+v", jobs, kept)
	}
	if !slices.Equal(ticks, keptTicks) {
		t.Errorf("R4: the trace was changed: %v, want %v", ticks, keptTicks)
	}
	l[1].Budget = 1
	if !slices.Equal(first, want) {
		t.Errorf("R4: the spans hang on the jobs: %v, want %v", first, want)
	}
	// R5: nothing of the earlier list is kept.
	spansAre(t, l, span(0, 2), span(8, 10))
}

// modelLoad is Load of valid jobs, job by job.
func modelLoad(l []job.Job, from, to int) int {
	sum := 0
	for _, j := range l {
		if from <= j.Release && j.Deadline <= to {
			sum += j.Budget + j.Clean
		}
	}
	return sum
}

// modelSpans marks the ticks of all overloaded intervals, and reads the marks.
func modelSpans(l []job.Job, ticks int) []Span {
	marks := make([]bool, ticks)
	for _, a := range l {
		for _, b := range l {
			if a.Release < b.Deadline && modelLoad(l, a.Release, b.Deadline) > b.Deadline-a.Release {
				for tick := a.Release; tick < b.Deadline; tick++ {
					marks[tick] = true
				}
			}
		}
	}
	var spans []Span
	for tick, mark := range marks {
		switch {
		case !mark:
		case tick > 0 && marks[tick-1]:
			spans[len(spans)-1].To = tick + 1
		default:
			spans = append(spans, span(tick, tick+1))
		}
	}
	return spans
}

// modelWorst tries each span in descending order, so that the last of several that is found is the first.
func modelWorst(l []job.Job, ticks int) (Span, int, bool) {
	worst, most, ok := Span{}, math.MinInt, false
	for from := ticks; from >= 0; from-- {
		for to := ticks; to > from; to-- {
			begins := slices.ContainsFunc(l, func(j job.Job) bool { return j.Release == from })
			ends := slices.ContainsFunc(l, func(j job.Job) bool { return j.Deadline == to })
			if excess := modelLoad(l, from, to) - (to - from); begins && ends && excess >= most {
				worst, most, ok = span(from, to), excess, true
			}
		}
	}
	if !ok {
		return Span{}, 0, false
	}
	return worst, most, ok
}

// randomJobs is a list of few jobs, sparse enough that not all is one overload.
func randomJobs(random *rand.Rand) []job.Job {
	l := make([]job.Job, random.Intn(8))
	for i := range l {
		release := random.Intn(20)
		l[i] = job.Job{
			Name: "a", Release: release, Deadline: release + 1 + random.Intn(9),
			Budget: 1 + random.Intn(4), Actual: 1 + random.Intn(6), Clean: random.Intn(2),
		}
	}
	return l
}

func TestRandomJobsAgainstModel(t *testing.T) {
	const ticks = 30
	random := rand.New(rand.NewSource(18))
	counts := make([]int, 9)
	several := 0
	for range 10000 {
		l := randomJobs(random)
		kept := slices.Clone(l)
		from, to := random.Intn(ticks+4)-2, random.Intn(ticks+4)-2
		loadIs(t, l, from, to, modelLoad(l, from, to))
		want := modelSpans(l, ticks)
		counts[len(want)]++
		spansAre(t, l, want...)
		s, most, ok := Worst(l)
		wantSpan, wantMost, wantOK := modelWorst(l, ticks)
		if s != wantSpan || most != wantMost || ok != wantOK {
			t.Errorf("P18.1: Worst(%+v): %v, %d, %t, want %v, %d, %t", l, s, most, ok, wantSpan, wantMost, wantOK)
		}
		if ok && most > 0 {
			several++
		}
		if !slices.Equal(l, kept) {
			t.Errorf("R4: the jobs were changed: %+v, want %+v", l, kept)
		}
		if t.Failed() {
			return
		}
	}
	// Lest the lists were all of one kind.
	if counts[0] < 1500 || counts[1] < 1500 || counts[2] < 500 || counts[3] < 20 {
		t.Errorf("of 10000 random lists so many have 0, 1, 2, .. spans: %v: too few of some", counts)
	}
	if several != 10000-counts[0] {
		t.Errorf("P18.1: %d lists have a worst interval that is an overload, %d have spans", several, 10000-counts[0])
	}
}

// randomTrace is a trace of jobs and idle ticks.
func randomTrace(random *rand.Rand) []int {
	x := make([]int, random.Intn(12))
	for tick := range x {
		x[tick] = random.Intn(4) - 1
	}
	return x
}

func TestRandomTracesAgainstModel(t *testing.T) {
	random := rand.New(rand.NewSource(181))
	for range 10000 {
		x := randomTrace(random)
		from, to := random.Intn(20)-4, random.Intn(20)-4
		wantBusy, wantAll := 0, 0
		for tick, i := range x {
			if from <= tick && tick < to {
				wantAll++
				if i != -1 {
					wantBusy++
				}
			}
		}
		if busy, all := Share(x, from, to); busy != wantBusy || all != wantAll {
			t.Fatalf("P18.1: Share(%v, %d, %d): %d, %d, want %d, %d", x, from, to, busy, all, wantBusy, wantAll)
		}
	}
}
