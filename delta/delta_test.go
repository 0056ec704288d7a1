package delta

import (
	"math"
	"math/rand"
	"slices"
	"testing"

	"tocsin/api"
)

// newQueue makes a queue, which must be taken and be empty at time 0.
func newQueue(t *testing.T, room int) *Queue {
	t.Helper()
	q, errno := New(room)
	if q == nil || errno != api.OK {
		t.Fatalf("P6.1: New(%d): %v, %d, want a queue, OK", room, q, errno)
	}
	holds(t, q, 0, nil)
	return q
}

// sets does a Set, and checks what it answers.
func sets(t *testing.T, q *Queue, id, after int, want api.Errno) {
	t.Helper()
	if errno := q.Set(id, after); errno != want {
		t.Fatalf("P6.1: Set(%d, %d): %d, want %d", id, after, errno, want)
	}
}

// stops does a Stop, and checks what it answers.
func stops(t *testing.T, q *Queue, id int, want bool) {
	t.Helper()
	if got := q.Stop(id); got != want {
		t.Fatalf("P6.1: Stop(%d): %t, want %t", id, got, want)
	}
}

// ticks does a Tick, and checks which timers it tells.
func ticks(t *testing.T, q *Queue, want ...int) {
	t.Helper()
	if got := q.Tick(); !slices.Equal(got, want) {
		t.Fatalf("P6.1: Tick to %d: %v, want %v", q.Now(), got, want)
	}
}

// isLeft checks how many Ticks a timer has; a want of 0 means that it is not set.
func isLeft(t *testing.T, q *Queue, id, want int) {
	t.Helper()
	if got, ok := q.Left(id); got != want || ok != (want > 0) {
		t.Fatalf("P6.1: Left(%d): %d, %t, want %d, %t", id, got, ok, want, want > 0)
	}
}

// holds checks the time and, by id, the Ticks that each timer has left.
func holds(t *testing.T, q *Queue, now int64, left map[int]int) {
	t.Helper()
	if q.Now() != now || q.Len() != len(left) {
		t.Fatalf("P6.1: Now, Len: %d, %d, want %d, %d", q.Now(), q.Len(), now, len(left))
	}
	for id, want := range left {
		isLeft(t, q, id, want)
	}
}

func TestNewRefusesWrongRoom(t *testing.T) {
	for _, room := range []int{math.MinInt, -1000, -1, 0, api.MaxSlots + 1, math.MaxInt} {
		if q, errno := New(room); q != nil || errno != api.EARG {
			t.Errorf("P6.1: New(%d): %v, %d, want nil, EARG", room, q, errno)
		}
	}
}

func TestEmptyQueue(t *testing.T) {
	q := newQueue(t, 3)
	for now := range int64(5) {
		for _, id := range []int{math.MinInt, -1, 0, 1, 3, math.MaxInt} {
			isLeft(t, q, id, 0)
			stops(t, q, id, false)
		}
		holds(t, q, now, nil)
		ticks(t, q)
	}
}

func TestTickOfTheExample(t *testing.T) {
	q := newQueue(t, 1)
	sets(t, q, 7, 2, api.OK)
	ticks(t, q)
	ticks(t, q, 7)
	ticks(t, q)
}

// TestSetRefusesWrongAfter: EARG comes ahead of EFULL, and leaves the timers and their order as they were.
func TestSetRefusesWrongAfter(t *testing.T) {
	wrong := []int{math.MinInt, -api.MaxTick, -1, 0, api.MaxTick + 1, math.MaxInt}
	for _, room := range []int{2, 3} {
		q := newQueue(t, room)
		for _, after := range wrong {
			sets(t, q, 1, after, api.EARG)
			holds(t, q, 0, nil)
		}
		sets(t, q, 1, 2, api.OK)
		sets(t, q, 2, 2, api.OK)
		for _, after := range wrong {
			for _, id := range []int{1, 2, 3} {
				sets(t, q, id, after, api.EARG)
				holds(t, q, 0, map[int]int{1: 2, 2: 2})
				isLeft(t, q, 3, 0)
			}
		}
		ticks(t, q)
		ticks(t, q, 1, 2)
	}
}

// TestAfter follows a timer of each length to its end, the least and the greatest among them.
func TestAfter(t *testing.T) {
	q := newQueue(t, 1)
	start := int64(0)
	for _, after := range []int{1, 2, 3, 100, api.MaxTick - 1, api.MaxTick} {
		sets(t, q, 5, after, api.OK)
		for gone := range after - 1 {
			isLeft(t, q, 5, after-gone)
			ticks(t, q)
		}
		isLeft(t, q, 5, 1)
		ticks(t, q, 5)
		start += int64(after)
		holds(t, q, start, nil)
		isLeft(t, q, 5, 0)
		stops(t, q, 5, false)
	}
}

// TestRoom fills queues of the least and the greatest room, and some between: each takes exactly its room.
func TestRoom(t *testing.T) {
	for _, room := range []int{1, 2, 7, api.MaxSlots - 1, api.MaxSlots} {
		q := newQueue(t, room)
		left := map[int]int{}
		var order []int
		for i := range room {
			sets(t, q, -i, 2, api.OK)
			left[-i] = 2
			order = append(order, -i)
		}
		for _, id := range []int{1, room, math.MinInt, math.MaxInt} {
			sets(t, q, id, 1, api.EFULL)
			isLeft(t, q, id, 0)
		}
		holds(t, q, 0, left)
		// A timer that is set already needs no room, and makes none.
		sets(t, q, 0, 2, api.OK)
		sets(t, q, 1, 1, api.EFULL)
		order = append(order[1:], 0)
		// Stop makes room for one.
		stops(t, q, order[0], true)
		sets(t, q, 1, 1, api.OK)
		sets(t, q, 2, 1, api.EFULL)
		// So does a timer that expires.
		ticks(t, q, 1)
		sets(t, q, 2, 1, api.OK)
		sets(t, q, 3, 1, api.EFULL)
		ticks(t, q, append(order[1:], 2)...)
		holds(t, q, 2, nil)
	}
}

// TestOrder: timers that expire together are told in the order of their last Set, whatever their ids and whenever they were set.
func TestOrder(t *testing.T) {
	q := newQueue(t, 8)
	sets(t, q, 9, 5, api.OK)
	sets(t, q, math.MaxInt, 5, api.OK)
	ticks(t, q)
	sets(t, q, math.MinInt, 4, api.OK)
	sets(t, q, 0, 3, api.OK)
	sets(t, q, 3, 4, api.OK)
	ticks(t, q)
	sets(t, q, -1, 3, api.OK)
	sets(t, q, 1, 2, api.OK)
	ticks(t, q)
	ticks(t, q, 0, 1)
	ticks(t, q, 9, math.MaxInt, math.MinInt, 3, -1)
	holds(t, q, 5, nil)
}

// TestSetAnew: a timer that is set anew counts from now on and comes after all others; the earlier setting is gone.
func TestSetAnew(t *testing.T) {
	cases := []struct {
		id, after int
		want      [][]int
	}{
		{1, 3, [][]int{nil, nil, {2, 3, 1}, nil}},
		{2, 3, [][]int{nil, nil, {1, 3, 2}, nil}},
		{3, 3, [][]int{nil, nil, {1, 2, 3}, nil}},
		{1, 1, [][]int{{1}, nil, {2, 3}, nil}},
		{2, 4, [][]int{nil, nil, {1, 3}, {2}}},
		{3, 2, [][]int{nil, {3}, {1, 2}, nil}},
	}
	for _, test := range cases {
		q := newQueue(t, 3)
		ticks(t, q)
		for _, id := range []int{1, 2, 3} {
			sets(t, q, id, 4, api.OK)
		}
		ticks(t, q)
		left := map[int]int{1: 3, 2: 3, 3: 3}
		holds(t, q, 2, left)
		sets(t, q, test.id, test.after, api.OK)
		left[test.id] = test.after
		holds(t, q, 2, left)
		for _, want := range test.want {
			ticks(t, q, want...)
		}
		holds(t, q, 6, nil)
	}
}

// TestSetAnewForEver: a timer that is always set anew ahead of its end never expires.
func TestSetAnewForEver(t *testing.T) {
	q := newQueue(t, 2)
	for range 100 {
		sets(t, q, 4, 2, api.OK)
		ticks(t, q)
		isLeft(t, q, 4, 1)
	}
	ticks(t, q, 4)
}

func TestStop(t *testing.T) {
	for _, stopped := range []int{1, 2, 3} {
		q := newQueue(t, 3)
		left := map[int]int{1: 2, 2: 2, 3: 2}
		var rest []int
		for _, id := range []int{1, 2, 3} {
			sets(t, q, id, 2, api.OK)
			if id != stopped {
				rest = append(rest, id)
			}
		}
		for _, id := range []int{math.MinInt, -1, 0, 4, math.MaxInt} {
			stops(t, q, id, false)
		}
		holds(t, q, 0, left)
		stops(t, q, stopped, true)
		stops(t, q, stopped, false)
		delete(left, stopped)
		holds(t, q, 0, left)
		isLeft(t, q, stopped, 0)
		ticks(t, q)
		ticks(t, q, rest...)
	}
	// A timer that was stopped may be set again: it comes after all others then.
	q := newQueue(t, 2)
	sets(t, q, 1, 1, api.OK)
	sets(t, q, 2, 1, api.OK)
	stops(t, q, 1, true)
	sets(t, q, 1, 1, api.OK)
	ticks(t, q, 2, 1)
}

// TestTickIsNewMemory writes over a result and its spare capacity: neither the queue nor another result may see it.
func TestTickIsNewMemory(t *testing.T) {
	q := newQueue(t, 6)
	for id := range 6 {
		sets(t, q, id, 1+id/3, api.OK)
	}
	first := q.Tick()
	for i := range first[:cap(first)] {
		first[:cap(first)][i] = 99
	}
	holds(t, q, 1, map[int]int{3: 1, 4: 1, 5: 1})
	second := q.Tick()
	if !slices.Equal(second, []int{3, 4, 5}) || !slices.Equal(first, []int{99, 99, 99}) {
		t.Fatalf("P6.1: results of Tick share memory: %v, %v", first, second)
	}
	// What the queue does later, an earlier result does not see.
	sets(t, q, 7, 1, api.OK)
	ticks(t, q, 7)
	if !slices.Equal(second, []int{3, 4, 5}) {
		t.Fatalf("P6.1: Tick's result changed by later calls: %v", second)
	}
}

// TestQueuesAreApart: what one queue is told, another one does not see.
func TestQueuesAreApart(t *testing.T) {
	p, q := newQueue(t, 2), newQueue(t, 2)
	sets(t, p, 1, 2, api.OK)
	ticks(t, p)
	holds(t, q, 0, nil)
	stops(t, q, 1, false)
	sets(t, q, 1, 2, api.OK)
	holds(t, p, 1, map[int]int{1: 1})
	holds(t, q, 0, map[int]int{1: 2})
	ticks(t, p, 1)
	holds(t, q, 0, map[int]int{1: 2})
}

// setting is one Set of the model: how many Ticks are left, and the how-manieth Set it was.
type setting struct{ left, turn int }

// model counts each timer down, and sorts those that are at 0 by the turn of their last Set.
type model struct {
	room, turn int
	now        int64
	timers     map[int]setting
}

func (m *model) set(id, after int) api.Errno {
	if after <= 0 || after > api.MaxTick {
		return api.EARG
	}
	if _, ok := m.timers[id]; !ok && len(m.timers) >= m.room {
		return api.EFULL
	}
	m.turn++
	m.timers[id] = setting{left: after, turn: m.turn}
	return api.OK
}

func (m *model) tick() []int {
	m.now++
	byTurn := map[int]int{}
	var turns, expired []int
	for id, s := range m.timers {
		s.left--
		m.timers[id] = s
		if s.left == 0 {
			byTurn[s.turn] = id
			turns = append(turns, s.turn)
		}
	}
	slices.Sort(turns)
	for _, turn := range turns {
		expired = append(expired, byTurn[turn])
		delete(m.timers, byTurn[turn])
	}
	return expired
}

func (m *model) left() map[int]int {
	left := map[int]int{}
	for id, s := range m.timers {
		left[id] = s.left
	}
	return left
}

// step does one random call on both, and compares the answers.
func (m *model) step(t *testing.T, q *Queue, random *rand.Rand) {
	t.Helper()
	id := random.Intn(2*m.room+1) - m.room
	_, there := m.timers[id]
	switch random.Intn(6) {
	case 0, 1, 2:
		after := random.Intn(8)
		sets(t, q, id, after, m.set(id, after))
	case 3:
		stops(t, q, id, there)
		delete(m.timers, id)
	case 4, 5:
		ticks(t, q, m.tick()...)
	}
	isLeft(t, q, id, m.timers[id].left)
}

func TestAgainstTheModel(t *testing.T) {
	random := rand.New(rand.NewSource(6))
	for round := range 60 {
		room := 1 + round%12
		q := newQueue(t, room)
		m := &model{room: room, timers: map[int]setting{}}
		for range 400 {
			m.step(t, q, random)
			holds(t, q, m.now, m.left())
		}
	}
}
