package arena

import (
	"math"
	"math/rand"
	"runtime"
	"slices"
	"testing"
	"weak"

	"tocsin/api"
)

// newArena makes an arena, which must succeed.
func newArena[T any](t *testing.T, room int) *Arena[T] {
	t.Helper()
	a, errno := New[T](room)
	if a == nil || errno != api.OK {
		t.Fatalf("P4.1: New(%d): %v, %d, want an arena, OK", room, a, errno)
	}
	return a
}

// mustPut puts v, which must be stored as want.
func mustPut[T any](t *testing.T, a *Arena[T], v T, want Handle) {
	t.Helper()
	if h, errno := a.Put(v); h != want || errno != api.OK {
		t.Fatalf("P4.1: Put(%v): %v, %d, want %v, OK", v, h, errno, want)
	}
}

// mustFree frees h, which must succeed.
func mustFree[T any](t *testing.T, a *Arena[T], h Handle) {
	t.Helper()
	if errno := a.Free(h); errno != api.OK {
		t.Fatalf("P4.1: Free(%v): %d, want OK", h, errno)
	}
}

// holds checks that a holds exactly the values of the handles, which ascend by slot.
func holds[T comparable](t *testing.T, a *Arena[T], handles []Handle, values []T) {
	t.Helper()
	if a.Len() != len(handles) || !slices.Equal(a.All(), handles) {
		t.Fatalf("P4.1: Len and All: %d, %v, want %d, %v", a.Len(), a.All(), len(handles), handles)
	}
	for i, h := range handles {
		if v, errno := a.Get(h); v != values[i] || errno != api.OK {
			t.Fatalf("P4.1: Get(%v): %v, %d, want %v, OK", h, v, errno, values[i])
		}
	}
}

// refuses checks that Get, Set and Free of h all return want.
func refuses(t *testing.T, a *Arena[int], h Handle, want api.Errno) {
	t.Helper()
	if v, errno := a.Get(h); v != 0 || errno != want {
		t.Errorf("P4.1: Get(%v): %d, %d, want 0, %d", h, v, errno, want)
	}
	if errno := a.Set(h, 99); errno != want {
		t.Errorf("P4.1: Set(%v): %d, want %d", h, errno, want)
	}
	if errno := a.Free(h); errno != want {
		t.Errorf("P4.1: Free(%v): %d, want %d", h, errno, want)
	}
}

func TestNewRefusesWrongRoom(t *testing.T) {
	for _, room := range []int{math.MinInt, -1000, -1, 0, api.MaxSlots + 1, math.MaxInt} {
		if a, errno := New[int](room); a != nil || errno != api.EARG {
			t.Errorf("P4.1: New(%d): %v, %d, want nil, EARG", room, a, errno)
		}
	}
}

// TestRoom fills arenas of the least and the greatest room, and some between: each takes exactly its room.
func TestRoom(t *testing.T) {
	for _, room := range []int{1, 2, 7, api.MaxSlots - 1, api.MaxSlots} {
		a := newArena[int](t, room)
		holds(t, a, nil, nil)
		var handles []Handle
		var values []int
		for i := range room {
			mustPut(t, a, i*i, Handle{Slot: i, Gen: 1})
			handles, values = append(handles, Handle{Slot: i, Gen: 1}), append(values, i*i)
		}
		for range 2 {
			if h, errno := a.Put(7); h != (Handle{}) || errno != api.EFULL {
				t.Errorf("P4.1: Put in a full arena of %d: %v, %d, want none, EFULL", room, h, errno)
			}
		}
		holds(t, a, handles, values)
		// A refused Put has no effect: what is freed now is the next slot, in its second time.
		mustFree(t, a, handles[room-1])
		mustPut(t, a, 5, Handle{Slot: room - 1, Gen: 2})
	}
}

func TestPutAfterFreeIsGenTwo(t *testing.T) {
	a := newArena[int](t, 3)
	mustPut(t, a, 1, Handle{Slot: 0, Gen: 1})
	mustFree(t, a, Handle{Slot: 0, Gen: 1})
	holds(t, a, nil, nil)
	mustPut(t, a, 2, Handle{Slot: 0, Gen: 2})
	holds(t, a, []Handle{{Slot: 0, Gen: 2}}, []int{2})
}

// TestPutTakesTheSlotFreedLast frees out of order: the last comes first, then those before, then the least new one.
func TestPutTakesTheSlotFreedLast(t *testing.T) {
	a := newArena[string](t, 6)
	for i, v := range []string{"a", "b", "c", "d"} {
		mustPut(t, a, v, Handle{Slot: i, Gen: 1})
	}
	for _, i := range []int{3, 0, 2} {
		mustFree(t, a, Handle{Slot: i, Gen: 1})
	}
	mustPut(t, a, "e", Handle{Slot: 2, Gen: 2})
	mustFree(t, a, Handle{Slot: 1, Gen: 1})
	mustPut(t, a, "f", Handle{Slot: 1, Gen: 2})
	mustPut(t, a, "g", Handle{Slot: 0, Gen: 2})
	mustPut(t, a, "h", Handle{Slot: 3, Gen: 2})
	mustPut(t, a, "i", Handle{Slot: 4, Gen: 1})
	holds(t, a, []Handle{{0, 2}, {1, 2}, {2, 2}, {3, 2}, {4, 1}}, []string{"g", "f", "e", "h", "i"})
}

// TestGenCountsOneSlot counts on in one slot over many values, and apart from the other slot.
func TestGenCountsOneSlot(t *testing.T) {
	a := newArena[int](t, 2)
	mustPut(t, a, -1, Handle{Slot: 0, Gen: 1})
	for gen := int64(1); gen <= 3000; gen++ {
		mustPut(t, a, int(gen), Handle{Slot: 1, Gen: gen})
		refuses(t, a, Handle{Slot: 1, Gen: gen - 1}, api.EOLD)
		mustFree(t, a, Handle{Slot: 1, Gen: gen})
		refuses(t, a, Handle{Slot: 1, Gen: gen}, api.EOLD)
	}
	holds(t, a, []Handle{{Slot: 0, Gen: 1}}, []int{-1})
}

// TestWrongHandles: EARG goes by the room alone, ahead of EOLD, whichever slots have been used.
func TestWrongHandles(t *testing.T) {
	gens := []int64{math.MinInt64, -1, 0, 1, 2, 3, math.MaxInt64}
	a := newArena[int](t, 4)
	for _, slot := range []int{math.MinInt, -4, -1, 4, 5, api.MaxSlots, math.MaxInt} {
		for _, gen := range gens {
			refuses(t, a, Handle{Slot: slot, Gen: gen}, api.EARG)
		}
	}
	mustPut(t, a, 10, Handle{Slot: 0, Gen: 1})
	mustFree(t, a, Handle{Slot: 0, Gen: 1})
	mustPut(t, a, 11, Handle{Slot: 0, Gen: 2}) // in use for the second time
	mustPut(t, a, 12, Handle{Slot: 1, Gen: 1})
	mustPut(t, a, 13, Handle{Slot: 2, Gen: 1})
	mustFree(t, a, Handle{Slot: 1, Gen: 1}) // used once, empty now; slot 3 has never been used
	for slot := range 4 {
		for _, gen := range gens {
			if slot == 0 && gen == 2 || slot == 2 && gen == 1 {
				continue
			}
			refuses(t, a, Handle{Slot: slot, Gen: gen}, api.EOLD)
		}
	}
	holds(t, a, []Handle{{0, 2}, {2, 1}}, []int{11, 13})
	// No refused Free may have put a slot among the freed ones.
	mustPut(t, a, 14, Handle{Slot: 1, Gen: 2})
	mustPut(t, a, 15, Handle{Slot: 3, Gen: 1})
	if _, errno := a.Put(16); errno != api.EFULL {
		t.Errorf("P4.1: Put after refused Frees: %d, want EFULL", errno)
	}
}

func TestSetReplacesOneValue(t *testing.T) {
	a := newArena[string](t, 3)
	handles := []Handle{{0, 1}, {1, 1}, {2, 1}}
	for i, v := range []string{"a", "b", "c"} {
		mustPut(t, a, v, handles[i])
	}
	for _, v := range []string{"x", "", "y"} {
		if errno := a.Set(handles[1], v); errno != api.OK {
			t.Errorf("P4.1: Set: %d, want OK", errno)
		}
		holds(t, a, handles, []string{"a", v, "c"})
	}
}

// TestAllIsNewMemory writes over the result, and over its spare capacity: the arena must not see it.
func TestAllIsNewMemory(t *testing.T) {
	a := newArena[int](t, 3)
	mustPut(t, a, 1, Handle{Slot: 0, Gen: 1})
	mustPut(t, a, 2, Handle{Slot: 1, Gen: 1})
	got := a.All()
	for i := range got[:cap(got)] {
		got[:cap(got)][i] = Handle{Slot: 9, Gen: 9}
	}
	holds(t, a, []Handle{{0, 1}, {1, 1}}, []int{1, 2})
}

// TestValuesOfAnyType stores values of types that can't be compared, and of no size.
func TestValuesOfAnyType(t *testing.T) {
	lists := newArena[[]int](t, 2)
	h, _ := lists.Put([]int{1, 2})
	if v, errno := lists.Get(h); !slices.Equal(v, []int{1, 2}) || errno != api.OK {
		t.Errorf("P4.1: Get of a list: %v, %d", v, errno)
	}
	mustFree(t, lists, h)
	if v, errno := lists.Get(h); v != nil || errno != api.EOLD {
		t.Errorf("P4.1: Get of a freed list: %v, %d, want nil, EOLD", v, errno)
	}
	calls := newArena[func() int](t, 1)
	h, _ = calls.Put(func() int { return 5 })
	if v, errno := calls.Get(h); errno != api.OK || v() != 5 {
		t.Errorf("P4.1: Get of a function: %d", errno)
	}
	nothings := newArena[struct{}](t, 1)
	mustPut(t, nothings, struct{}{}, Handle{Slot: 0, Gen: 1})
	holds(t, nothings, []Handle{{0, 1}}, []struct{}{{}})
}

// TestArenasAreApart: what one arena is told, another one does not see.
func TestArenasAreApart(t *testing.T) {
	a, b := newArena[int](t, 2), newArena[int](t, 2)
	mustPut(t, a, 1, Handle{Slot: 0, Gen: 1})
	refuses(t, b, Handle{Slot: 0, Gen: 1}, api.EOLD)
	mustPut(t, b, 2, Handle{Slot: 0, Gen: 1})
	mustFree(t, a, Handle{Slot: 0, Gen: 1})
	holds(t, a, nil, nil)
	holds(t, b, []Handle{{0, 1}}, []int{2})
}

// TestFreeKeepsNoValue: a value that was freed, or replaced, is not kept alive by the arena.
func TestFreeKeepsNoValue(t *testing.T) {
	a := newArena[*[64]int](t, 2)
	put := func() (weak.Pointer[[64]int], Handle) {
		v := new([64]int)
		h, _ := a.Put(v)
		return weak.Make(v), h
	}
	freed, h := put()
	mustFree(t, a, h)
	replaced, h := put()
	if errno := a.Set(h, nil); errno != api.OK {
		t.Fatalf("P4.1: Set: %d, want OK", errno)
	}
	runtime.GC()
	if freed.Value() != nil || replaced.Value() != nil {
		t.Errorf("P4.1: Free removes the value, Set replaces it: the arena still keeps one")
	}
	runtime.KeepAlive(a)
}

// model answers as the chapter's words say, by the history of all slots.
type model struct {
	room  int
	puts  []int64     // by slot: how many values were put in
	now   map[int]int // by slot in use: the value
	frees map[int]int // by empty used slot: the time of its last Free
	clock int
}

func (m *model) put(v int) (Handle, api.Errno) {
	best := -1
	for s, at := range m.frees {
		if best < 0 || at > m.frees[best] {
			best = s
		}
	}
	for s := 0; best < 0 && s < m.room; s++ {
		if m.puts[s] == 0 {
			best = s
		}
	}
	if best < 0 {
		return Handle{}, api.EFULL
	}
	delete(m.frees, best)
	m.puts[best]++
	m.now[best] = v
	return Handle{Slot: best, Gen: m.puts[best]}, api.OK
}

func (m *model) check(h Handle) api.Errno {
	if h.Slot < 0 || h.Slot >= m.room {
		return api.EARG
	}
	if _, ok := m.now[h.Slot]; !ok || m.puts[h.Slot] != h.Gen {
		return api.EOLD
	}
	return api.OK
}

func (m *model) all() ([]Handle, []int) {
	var handles []Handle
	var values []int
	for s := range m.room {
		if v, ok := m.now[s]; ok {
			handles, values = append(handles, Handle{Slot: s, Gen: m.puts[s]}), append(values, v)
		}
	}
	return handles, values
}

// step does one random call on both, and compares the answers.
func (m *model) step(t *testing.T, a *Arena[int], random *rand.Rand) {
	t.Helper()
	h := Handle{Slot: random.Intn(m.room+2) - 1, Gen: int64(random.Intn(4))}
	if random.Intn(2) == 0 && h.Slot >= 0 && h.Slot < m.room {
		h.Gen = m.puts[h.Slot]
	}
	v, want := random.Int(), m.check(h)
	switch random.Intn(5) {
	case 0, 1:
		wantHandle, wantErrno := m.put(v)
		if got, errno := a.Put(v); got != wantHandle || errno != wantErrno {
			t.Fatalf("P4.1: Put: %v, %d, want %v, %d", got, errno, wantHandle, wantErrno)
		}
	case 2:
		if errno := a.Set(h, v); errno != want {
			t.Fatalf("P4.1: Set(%v): %d, want %d", h, errno, want)
		}
		if want == api.OK {
			m.now[h.Slot] = v
		}
	case 3:
		if errno := a.Free(h); errno != want {
			t.Fatalf("P4.1: Free(%v): %d, want %d", h, errno, want)
		}
		if want == api.OK {
			m.clock++
			m.frees[h.Slot] = m.clock
			delete(m.now, h.Slot)
		}
	case 4:
		wantValue := 0
		if want == api.OK {
			wantValue = m.now[h.Slot]
		}
		if got, errno := a.Get(h); got != wantValue || errno != want {
			t.Fatalf("P4.1: Get(%v): %d, %d, want %d, %d", h, got, errno, wantValue, want)
		}
	}
}

func TestAgainstTheModel(t *testing.T) {
	random := rand.New(rand.NewSource(4))
	for round := range 60 {
		room := 1 + round%12
		a := newArena[int](t, room)
		m := &model{room: room, puts: make([]int64, room), now: map[int]int{}, frees: map[int]int{}}
		for range 300 {
			m.step(t, a, random)
			handles, values := m.all()
			holds(t, a, handles, values)
		}
	}
}
