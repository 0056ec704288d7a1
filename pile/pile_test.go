package pile

import (
	"math"
	"math/rand"
	"slices"
	"testing"

	"tocsin/api"
)

// newPile makes a pile of the items, which must all be taken.
func newPile(t *testing.T, room int, items ...Item) *Pile {
	t.Helper()
	p, errno := New(room)
	if p == nil || errno != api.OK {
		t.Fatalf("P5.1: New(%d): %v, %d, want a pile, OK", room, p, errno)
	}
	for _, x := range items {
		if errno := p.Push(x); errno != api.OK {
			t.Fatalf("P5.1: Push(%v): %d, want OK", x, errno)
		}
	}
	return p
}

// holds checks that p holds exactly the items, which ascend.
func holds(t *testing.T, p *Pile, items ...Item) {
	t.Helper()
	if got := p.All(); !slices.Equal(got, items) {
		t.Fatalf("P5.1: All: %v, want %v", got, items)
	}
	var least Item
	if len(items) > 0 {
		least = items[0]
	}
	if got, ok := p.Top(); got != least || ok != (len(items) > 0) {
		t.Fatalf("P5.1: Top: %v, %t, want %v, %t", got, ok, least, len(items) > 0)
	}
	for _, x := range items {
		if !p.Has(x.ID) {
			t.Fatalf("P5.1: Has(%d): false, want true", x.ID)
		}
	}
}

// pops checks that p gives out exactly the items, one by one, and is empty then.
func pops(t *testing.T, p *Pile, items ...Item) {
	t.Helper()
	for i, want := range items {
		if got, ok := p.Pop(); got != want || !ok {
			t.Fatalf("P5.1: Pop: %v, %t, want %v, true", got, ok, want)
		}
		if p.Has(want.ID) {
			t.Fatalf("P5.1: Has(%d) after its Pop: true, want false", want.ID)
		}
		holds(t, p, items[i+1:]...)
	}
	for range 2 {
		if got, ok := p.Pop(); got != (Item{}) || ok {
			t.Fatalf("P5.1: Pop of an empty pile: %v, %t, want nothing, false", got, ok)
		}
	}
}

func TestNewRefusesWrongRoom(t *testing.T) {
	for _, room := range []int{math.MinInt, -1000, -1, 0, api.MaxSlots + 1, math.MaxInt} {
		if p, errno := New(room); p != nil || errno != api.EARG {
			t.Errorf("P5.1: New(%d): %v, %d, want nil, EARG", room, p, errno)
		}
	}
}

func TestEmptyPile(t *testing.T) {
	p := newPile(t, 3)
	holds(t, p)
	pops(t, p)
	for _, id := range []int{math.MinInt, -1, 0, 1, 3, math.MaxInt} {
		if p.Has(id) {
			t.Errorf("P5.1: Has(%d) of an empty pile: true, want false", id)
		}
		if errno := p.Move(id, 0); errno != api.ENONE {
			t.Errorf("P5.1: Move(%d) in an empty pile: %d, want ENONE", id, errno)
		}
		if errno := p.Drop(id); errno != api.ENONE {
			t.Errorf("P5.1: Drop(%d) of an empty pile: %d, want ENONE", id, errno)
		}
	}
	holds(t, p)
}

func TestTopOfTheExample(t *testing.T) {
	p := newPile(t, 2, Item{ID: 1, Key: 5}, Item{ID: 2, Key: 3})
	if x, ok := p.Top(); x != (Item{ID: 2, Key: 3}) || !ok {
		t.Errorf("P5.1: Top: %v, %t, want item 2, true", x, ok)
	}
	// Top removes nothing.
	holds(t, p, Item{ID: 2, Key: 3}, Item{ID: 1, Key: 5})
}

// TestRoom fills piles of the least and the greatest room, and some between: each takes exactly its room.
func TestRoom(t *testing.T) {
	for _, room := range []int{1, 2, 7, api.MaxSlots - 1, api.MaxSlots} {
		var items []Item
		for i := range room {
			items = append(items, Item{ID: -i, Key: int64(i * 3), Then: int64(-i)})
		}
		backward := slices.Clone(items)
		slices.Reverse(backward)
		p := newPile(t, room, backward...)
		for _, x := range []Item{{ID: 1}, {ID: room, Key: -1}, {ID: math.MinInt, Key: math.MaxInt64}} {
			if errno := p.Push(x); errno != api.EFULL || p.Has(x.ID) {
				t.Errorf("P5.1: Push(%v) on a full pile of %d: %d, want EFULL", x, room, errno)
			}
		}
		holds(t, p, items...)
		// Room is made again by Pop and by Drop, for one item each; Move makes none.
		if _, ok := p.Pop(); !ok || p.Push(Item{ID: 1, Key: -5}) != api.OK || p.Push(Item{ID: 2}) != api.EFULL {
			t.Errorf("P5.1: Push after Pop of a full pile of %d", room)
		}
		if p.Move(1, -6) != api.OK || p.Push(Item{ID: 2}) != api.EFULL {
			t.Errorf("P5.1: Push after Move in a full pile of %d", room)
		}
		if p.Drop(1) != api.OK || p.Push(items[0]) != api.OK || p.Push(Item{ID: 2}) != api.EFULL {
			t.Errorf("P5.1: Push after Drop of a full pile of %d", room)
		}
		holds(t, p, items...)
	}
}

// TestPushOfAnIDThatIsThere: EEXIST comes ahead of EFULL, whatever the keys, and leaves the item as it was.
func TestPushOfAnIDThatIsThere(t *testing.T) {
	first, second := Item{ID: 7, Key: 1, Then: 2}, Item{ID: 8, Key: 3, Then: 4}
	p := newPile(t, 3, first, second)
	full := newPile(t, 2, first, second)
	for _, x := range []Item{first, {ID: 7}, {ID: 7, Key: 1, Then: 9}, {ID: 8, Key: math.MinInt64}, {ID: 8, Key: 9, Then: 9}} {
		for _, q := range []*Pile{p, full} {
			if errno := q.Push(x); errno != api.EEXIST {
				t.Errorf("P5.1: Push(%v): %d, want EEXIST", x, errno)
			}
			holds(t, q, first, second)
		}
	}
	// An ID that is gone may come again, with other keys.
	pops(t, p, first, second)
	if errno := p.Push(Item{ID: 7, Key: 9}); errno != api.OK {
		t.Errorf("P5.1: Push of an ID that is gone: %d, want OK", errno)
	}
	holds(t, p, Item{ID: 7, Key: 9})
}

// ordered is a list of items in ascending order, with neighbours that differ in one key alone, up to the ends of the types.
func ordered() []Item {
	return []Item{
		{ID: 9, Key: math.MinInt64, Then: math.MaxInt64},
		{ID: 8, Key: -1, Then: 5},
		{ID: 20, Key: 0, Then: math.MinInt64},
		{ID: 21, Key: 0, Then: -1},
		{ID: math.MinInt, Key: 0, Then: 0},
		{ID: -1, Key: 0, Then: 0},
		{ID: 0, Key: 0, Then: 0},
		{ID: 1, Key: 0, Then: 0},
		{ID: math.MaxInt, Key: 0, Then: 0},
		{ID: -30, Key: 0, Then: 1},
		{ID: -31, Key: 0, Then: math.MaxInt64},
		{ID: -32, Key: 1, Then: -7},
		{ID: -34, Key: math.MaxInt64, Then: math.MinInt64},
		{ID: -33, Key: math.MaxInt64, Then: math.MinInt64},
	}
}

// TestOrder pushes the ordered items in many orders: they always come out by Key, then Then, then ID.
func TestOrder(t *testing.T) {
	random := rand.New(rand.NewSource(5))
	want := ordered()
	for range 200 {
		mixed := slices.Clone(want)
		random.Shuffle(len(mixed), func(i, j int) { mixed[i], mixed[j] = mixed[j], mixed[i] })
		p := newPile(t, len(want), mixed...)
		holds(t, p, want...)
		pops(t, p, want...)
	}
}

func TestMove(t *testing.T) {
	a, b, c := Item{ID: 1, Key: 10, Then: 5}, Item{ID: 2, Key: 20, Then: 4}, Item{ID: 3, Key: 30, Then: 3}
	moved := func(x Item, key int64) Item { return Item{ID: x.ID, Key: key, Then: x.Then} }
	cases := []struct {
		id   int
		key  int64
		want []Item
	}{
		{1, 10, []Item{a, b, c}},
		{1, 19, []Item{moved(a, 19), b, c}},
		{1, 20, []Item{b, moved(a, 20), c}}, // as great a Key: Then decides
		{1, 30, []Item{b, c, moved(a, 30)}},
		{1, math.MaxInt64, []Item{b, c, moved(a, math.MaxInt64)}},
		{2, math.MinInt64, []Item{moved(b, math.MinInt64), a, c}},
		{2, 10, []Item{moved(b, 10), a, c}},
		{2, 30, []Item{a, c, moved(b, 30)}},
		{3, 0, []Item{moved(c, 0), a, b}},
		{3, 11, []Item{a, moved(c, 11), b}},
		{3, 31, []Item{a, b, moved(c, 31)}},
	}
	for _, test := range cases {
		p := newPile(t, 3, a, b, c)
		if errno := p.Move(test.id, test.key); errno != api.OK {
			t.Errorf("P5.1: Move(%d, %d): %d, want OK", test.id, test.key, errno)
		}
		holds(t, p, test.want...)
		pops(t, p, test.want...)
	}
	// Items alike in both keys are told apart by ID, after a Move too.
	p := newPile(t, 2, Item{ID: 4, Key: 1}, Item{ID: 5, Key: 2})
	if errno := p.Move(4, 2); errno != api.OK {
		t.Errorf("P5.1: Move(4, 2): %d, want OK", errno)
	}
	holds(t, p, Item{ID: 4, Key: 2}, Item{ID: 5, Key: 2})
}

// TestWrongIDs: Move and Drop take the ID, not a place or a key, and a refused one changes nothing.
func TestWrongIDs(t *testing.T) {
	items := []Item{{ID: 10, Key: 3, Then: 7}, {ID: -20, Key: 4, Then: 8}}
	p := newPile(t, 4, items...)
	for _, id := range []int{math.MinInt, -10, -1, 0, 1, 2, 3, 4, 7, 8, 20, math.MaxInt} {
		if p.Has(id) {
			t.Errorf("P5.1: Has(%d): true, want false", id)
		}
		if errno := p.Move(id, 0); errno != api.ENONE {
			t.Errorf("P5.1: Move(%d): %d, want ENONE", id, errno)
		}
		if errno := p.Drop(id); errno != api.ENONE {
			t.Errorf("P5.1: Drop(%d): %d, want ENONE", id, errno)
		}
		holds(t, p, items...)
	}
}

// TestDrop drops each item of the ordered ones, at either end and between, and then all the rest.
func TestDrop(t *testing.T) {
	items := ordered()
	for i, x := range items {
		p := newPile(t, len(items), items...)
		if errno := p.Drop(x.ID); errno != api.OK || p.Has(x.ID) {
			t.Fatalf("P5.1: Drop(%d): %d, Has then: %t, want OK, false", x.ID, errno, p.Has(x.ID))
		}
		if errno := p.Drop(x.ID); errno != api.ENONE {
			t.Fatalf("P5.1: second Drop(%d): %d, want ENONE", x.ID, errno)
		}
		if errno := p.Move(x.ID, 1); errno != api.ENONE {
			t.Fatalf("P5.1: Move(%d) after its Drop: %d, want ENONE", x.ID, errno)
		}
		pops(t, p, slices.Delete(slices.Clone(items), i, i+1)...)
	}
}

// TestAllIsNewMemory writes over the result and its spare capacity: neither the pile nor another result may see it.
func TestAllIsNewMemory(t *testing.T) {
	items := []Item{{ID: 1, Key: 1}, {ID: 2, Key: 2}, {ID: 3, Key: 3}}
	p := newPile(t, 5, items...)
	got, other := p.All(), p.All()
	for i := range got[:cap(got)] {
		got[:cap(got)][i] = Item{ID: 9, Key: -9, Then: 9}
	}
	holds(t, p, items...)
	if !slices.Equal(other, items) {
		t.Errorf("P5.1: two results of All share memory: %v, want %v", other, items)
	}
	// What the pile does later, an earlier result does not see.
	if p.Push(Item{ID: 4}) != api.OK || p.Move(2, 9) != api.OK || p.Drop(1) != api.OK || !slices.Equal(other, items) {
		t.Errorf("P5.1: All changed by later calls: %v, want %v", other, items)
	}
}

// TestPilesAreApart: what one pile is told, another one does not see.
func TestPilesAreApart(t *testing.T) {
	p, q := newPile(t, 2, Item{ID: 1, Key: 1}), newPile(t, 2)
	holds(t, q)
	if q.Has(1) || q.Drop(1) != api.ENONE || q.Push(Item{ID: 1, Key: 2}) != api.OK {
		t.Errorf("P5.1: a pile sees another one's item")
	}
	holds(t, p, Item{ID: 1, Key: 1})
	holds(t, q, Item{ID: 1, Key: 2})
}

// model keeps the items by ID and looks for the least one anew each time.
type model struct {
	room  int
	items map[int]Item
}

func less(a, b Item) bool {
	if a.Key != b.Key {
		return a.Key < b.Key
	}
	if a.Then != b.Then {
		return a.Then < b.Then
	}
	return a.ID < b.ID
}

func (m *model) top() (Item, bool) {
	var least Item
	found := false
	for _, x := range m.items {
		if !found || less(x, least) {
			least, found = x, true
		}
	}
	return least, found
}

func (m *model) all() []Item {
	rest := &model{items: map[int]Item{}}
	for id, x := range m.items {
		rest.items[id] = x
	}
	var list []Item
	for {
		x, ok := rest.top()
		if !ok {
			return list
		}
		delete(rest.items, x.ID)
		list = append(list, x)
	}
}

func (m *model) push(x Item) api.Errno {
	if _, ok := m.items[x.ID]; ok {
		return api.EEXIST
	}
	if len(m.items) >= m.room {
		return api.EFULL
	}
	m.items[x.ID] = x
	return api.OK
}

// step does one random call on both, and compares the answers.
func (m *model) step(t *testing.T, p *Pile, random *rand.Rand) {
	t.Helper()
	x := Item{ID: random.Intn(2*m.room+1) - m.room, Key: int64(random.Intn(5) - 2), Then: int64(random.Intn(3) - 1)}
	held, there := m.items[x.ID]
	want := api.ENONE
	if there {
		want = api.OK
	}
	switch random.Intn(6) {
	case 0, 1:
		want = m.push(x)
		if errno := p.Push(x); errno != want {
			t.Fatalf("P5.1: Push(%v): %d, want %d", x, errno, want)
		}
	case 2:
		least, ok := m.top()
		if ok {
			delete(m.items, least.ID)
		}
		if got, fine := p.Pop(); got != least || fine != ok {
			t.Fatalf("P5.1: Pop: %v, %t, want %v, %t", got, fine, least, ok)
		}
	case 3:
		if errno := p.Move(x.ID, x.Key); errno != want {
			t.Fatalf("P5.1: Move(%d, %d): %d, want %d", x.ID, x.Key, errno, want)
		}
		if there {
			held.Key = x.Key
			m.items[x.ID] = held
		}
	case 4:
		if errno := p.Drop(x.ID); errno != want {
			t.Fatalf("P5.1: Drop(%d): %d, want %d", x.ID, errno, want)
		}
		delete(m.items, x.ID)
	case 5:
		if got := p.Has(x.ID); got != there {
			t.Fatalf("P5.1: Has(%d): %t, want %t", x.ID, got, there)
		}
	}
}

func TestAgainstTheModel(t *testing.T) {
	random := rand.New(rand.NewSource(55))
	for round := range 60 {
		room := 1 + round%12
		p := newPile(t, room)
		m := &model{room: room, items: map[int]Item{}}
		for range 300 {
			m.step(t, p, random)
			holds(t, p, m.all()...)
		}
	}
}
