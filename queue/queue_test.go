package queue_test

import (
	"math"
	"reflect"
	"testing"

	"chaplet/api"
	"chaplet/queue"
)

// numbered is a packet that no other number's is like: no field of it has the
// bounds of a right packet, since a queue asks for none.
func numbered(n int) api.Packet {
	p := api.Packet{Kind: n, From: n + 1, To: -n, ID: 3 * n, Line: n - 7, Ptr: n ^ 5, State: -2 * n, Flag: n%2 == 1}
	for i := range n % 6 {
		p.Data = append(p.Data, n+i)
	}
	return p
}

// alike takes nil and empty Data for the same (R4).
func alike(a, b api.Packet) bool {
	if len(a.Data) == 0 && len(b.Data) == 0 {
		a.Data, b.Data = nil, nil
	}
	return reflect.DeepEqual(a, b)
}

func allAlike(a, b []api.Packet) bool {
	if len(a) != len(b) {
		return false
	}
	for i := range a {
		if !alike(a[i], b[i]) {
			return false
		}
	}
	return true
}

// mustBe holds all that a queue tells against a plain list of so much room.
func mustBe(t *testing.T, q *queue.Queue, room int, want []api.Packet) {
	t.Helper()
	if n := q.Len(); n != len(want) {
		t.Fatalf("room %d: Len %d, want %d", room, n, len(want))
	}
	if n := q.Room(); n != room-len(want) {
		t.Fatalf("room %d: Room %d, want %d", room, n, room-len(want))
	}
	if l := q.All(); !allAlike(l, want) {
		t.Fatalf("room %d: All %v, want %v", room, l, want)
	}
	p, ok := q.Peek()
	mustFirst(t, "Peek", p, ok, want)
}

func mustFirst(t *testing.T, call string, p api.Packet, ok bool, want []api.Packet) {
	t.Helper()
	if len(want) == 0 {
		if ok || !reflect.DeepEqual(p, api.Packet{}) {
			t.Fatalf("%s of an empty one: %v, %v", call, p, ok)
		}
		return
	}
	if !ok || !alike(p, want[0]) {
		t.Fatalf("%s: %v, %v; want %v", call, p, ok, want[0])
	}
}

// pair is a queue beside the plain list that it is held against.
type pair struct {
	q    *queue.Queue
	room int
	list []api.Packet
}

func newPair(room int) *pair {
	return &pair{q: queue.New(room), room: max(room, 0)}
}

func (b *pair) put(t *testing.T, n int) {
	t.Helper()
	e := b.q.Put(numbered(n))
	if len(b.list) == b.room {
		if e != api.ErrFull {
			t.Fatalf("room %d: Put into a full one: %d", b.room, e)
		}
	} else {
		if e != api.OK {
			t.Fatalf("room %d: Put beside %d: %d", b.room, len(b.list), e)
		}
		b.list = append(b.list, numbered(n))
	}
	mustBe(t, b.q, b.room, b.list)
}

func (b *pair) take(t *testing.T) {
	t.Helper()
	p, ok := b.q.Take()
	mustFirst(t, "Take", p, ok, b.list)
	if len(b.list) > 0 {
		b.list = b.list[1:]
	}
	mustBe(t, b.q, b.room, b.list)
}

func (b *pair) fill(t *testing.T) {
	t.Helper()
	for n := range b.room {
		b.put(t, 100+n)
	}
}

// P4.1, the example: Take of a new one is false.
func TestNewIsEmpty(t *testing.T) {
	for _, room := range []int{math.MinInt, math.MinInt + 1, -256, -3, -1, 0, 1, 2, 8, 9, 1 << 20, 1 << 40, math.MaxInt - 1, math.MaxInt} {
		b := newPair(room)
		mustBe(t, b.q, b.room, nil)
		b.take(t)
		b.take(t)
		b.put(t, 4)
		b.put(t, 5)
		b.take(t)
		b.take(t)
		b.take(t)
	}
}

// P4.1: a room of 0 or below takes nothing, however often it is tried.
func TestNoRoom(t *testing.T) {
	for _, room := range []int{0, -1, -2, -8, math.MinInt} {
		q := queue.New(room)
		for n := range 20 {
			if e := q.Put(numbered(n)); e != api.ErrFull {
				t.Fatalf("room %d: Put: %d", room, e)
			}
			if p, ok := q.Take(); ok || !reflect.DeepEqual(p, api.Packet{}) {
				t.Fatalf("room %d: Take: %v, %v", room, p, ok)
			}
			mustBe(t, q, 0, nil)
		}
	}
}

// P4.1: so many packets and no more go in; they come out in order.
func TestFullAndEmptyAgain(t *testing.T) {
	for room := range 20 {
		b := newPair(room)
		for range 3 {
			b.fill(t)
			if b.q.Len() != room || b.q.Room() != 0 {
				t.Fatalf("room %d: full with %d, and room for %d", room, b.q.Len(), b.q.Room())
			}
			b.put(t, 7)
			b.put(t, 8)
			for range room + 2 {
				b.take(t)
			}
		}
	}
}

// P4.1: a full one, and one that is one short of full, over many more turns than there is room.
func TestTurnsAtTheEdge(t *testing.T) {
	for room := 1; room <= 9; room++ {
		b := newPair(room)
		b.fill(t)
		for n := range 10*room + 3 {
			b.put(t, 7)
			b.take(t)
			b.put(t, n)
		}
		if b.q.Len() != room {
			t.Fatalf("room %d: Len %d", room, b.q.Len())
		}
	}
}

// P4.1: each way of putting and taking that has so many turns.
func TestEachTurn(t *testing.T) {
	const turns = 8
	for room := -1; room <= 4; room++ {
		for way := range 1 << turns {
			b := newPair(room)
			for i := range turns {
				if way>>i&1 == 1 {
					b.put(t, i+1)
				} else {
					b.take(t)
				}
			}
		}
	}
}

// P4.1: long ways, now with more puts, now with more takes.
func TestManyTurns(t *testing.T) {
	for _, room := range []int{1, 2, 3, 5, 8, 13, 40} {
		b := newPair(room)
		digits := uint32(room)
		for n := range 3000 {
			digits = digits*1664525 + 1013904223
			puts := uint32(3)
			if n/(4*room)%2 == 1 {
				puts = 1
			}
			if digits>>16%4 < puts {
				b.put(t, n)
			} else {
				b.take(t)
			}
		}
	}
}

// P4.1: a room that is far greater than what comes, and what comes is much.
func TestMuch(t *testing.T) {
	const much = 200000
	q := queue.New(math.MaxInt)
	for n := range much {
		if e := q.Put(api.Packet{Kind: n, Data: []int{n}}); e != api.OK {
			t.Fatal(n, e)
		}
	}
	if q.Len() != much || q.Room() != math.MaxInt-much || len(q.All()) != much {
		t.Fatal(q.Len(), q.Room())
	}
	for n := range much {
		if p, ok := q.Take(); !ok || p.Kind != n || len(p.Data) != 1 || p.Data[0] != n {
			t.Fatal(n, p, ok)
		}
	}
	mustBe(t, q, math.MaxInt, nil)
}

// P4.1: a packet is taken as it is, of whatever kind; as often as it is put.
func TestAnyPacket(t *testing.T) {
	odd := []api.Packet{
		{},
		{},
		{Kind: math.MaxInt, From: math.MinInt, To: -1, ID: api.MaxID, Line: api.MaxLines, Ptr: -2, State: 3, Flag: true},
		{Kind: -1, Data: make([]int, 1000)},
		{Data: []int{math.MinInt, math.MaxInt}},
		{Data: []int{}},
		{Flag: true},
	}
	q := queue.New(len(odd))
	for i, p := range odd {
		if e := q.Put(p); e != api.OK {
			t.Fatal(i, e)
		}
	}
	mustBe(t, q, len(odd), odd)
	for i := range odd {
		p, ok := q.Take()
		mustFirst(t, "Take", p, ok, odd[i:])
	}
}

// P4.1: what is asked only changes nothing.
func TestAskingChangesNothing(t *testing.T) {
	b := newPair(4)
	for n := range 4 {
		for range 5 {
			mustBe(t, b.q, b.room, b.list)
		}
		b.put(t, n)
	}
	for range 5 {
		mustBe(t, b.q, b.room, b.list)
	}
}

// R5: two queues know nothing of each other.
func TestTwoQueues(t *testing.T) {
	one, other := newPair(2), newPair(3)
	for n := range 30 {
		one.put(t, n)
		mustBe(t, other.q, other.room, other.list)
		other.put(t, 100+n)
		mustBe(t, one.q, one.room, one.list)
		if n%2 == 1 {
			one.take(t)
		} else {
			other.take(t)
		}
		mustBe(t, one.q, one.room, one.list)
		mustBe(t, other.q, other.room, other.list)
	}
}

func spoil(data []int) {
	data = data[:cap(data)]
	for i := range data {
		data[i] = -99
	}
}

func spoilAll(list []api.Packet) {
	for i := range list {
		spoil(list[i].Data)
	}
	list = list[:cap(list)]
	for i := range list {
		list[i] = api.Packet{Kind: -99, Data: []int{-99}}
	}
}

// within is Data with other words ahead of them and behind their length, in one memory.
func within(words ...int) (data, memory []int) {
	memory = append(append([]int{41, 42}, words...), 43, 44, 45)
	return memory[2 : 2+len(words)], memory
}

// R4: what is put is not changed, and not what lies behind its length.
func TestPutLeavesItsArgument(t *testing.T) {
	for words := range 5 {
		data, memory := within([]int{1, 2, 3, 4}[:words]...)
		before := append([]int(nil), memory...)
		q := queue.New(1)
		for range 3 { // the later ones are refused
			q.Put(api.Packet{Kind: 1, Data: data})
		}
		q.Peek()
		q.All()
		p, _ := q.Take()
		spoil(p.Data)
		if !reflect.DeepEqual(memory, before) {
			t.Errorf("%d words: %v, were %v", words, memory, before)
		}
	}
}

// R4: what is put is not kept: its Data are written into behind Put.
func TestPutKeepsNothing(t *testing.T) {
	const room = 5
	q := queue.New(room)
	want := []api.Packet{}
	for n := range room {
		data, memory := within([]int{n + 1, n + 2, n + 3, n + 4}[:n]...)
		q.Put(api.Packet{Kind: n, Data: data})
		want = append(want, api.Packet{Kind: n, Data: append([]int(nil), data...)})
		spoil(memory)
		mustBe(t, q, room, want)
	}
	for i := range room {
		p, ok := q.Take()
		mustFirst(t, "Take", p, ok, want[i:])
	}
}

// R4: what behind the Data's length is put, is not handed out.
func TestNothingBehindTheLength(t *testing.T) {
	data, _ := within(1, 2)
	q := queue.New(2)
	q.Put(api.Packet{Data: data})
	q.Put(api.Packet{Data: data})
	peeked, _ := q.Peek()
	list := q.All()
	taken, _ := q.Take()
	for _, p := range []api.Packet{peeked, list[0], list[1], taken} {
		if !reflect.DeepEqual(p.Data, []int{1, 2}) {
			t.Error(p.Data)
		}
		for _, word := range p.Data[2:cap(p.Data)] {
			if word != 0 {
				t.Errorf("%d is told behind the length", word)
			}
		}
	}
}

// R4: what is handed out is written into, all of its memory: nothing in the
// queue is another one, and nothing that was handed out before.
func TestHandedOutIsNew(t *testing.T) {
	for room := 1; room <= 6; room++ {
		b := newPair(room)
		for n := range 4 * room {
			b.put(t, n+5)
			before, _ := b.q.Peek()
			p, _ := b.q.Peek()
			spoil(p.Data)
			mustBe(t, b.q, b.room, b.list)
			mustFirst(t, "Peek before", before, true, b.list)

			told := b.q.All()
			spoilAll(b.q.All())
			mustBe(t, b.q, b.room, b.list)
			if !allAlike(told, b.list) {
				t.Fatalf("room %d: All before: %v", room, told)
			}

			if n%3 != 0 {
				continue
			}
			first := b.list[0]
			taken, _ := b.q.Take()
			b.list = b.list[1:]
			if !alike(before, first) || !allAlike(told[:1], []api.Packet{first}) {
				t.Fatalf("room %d: Take wrote into what was handed out", room)
			}
			spoil(taken.Data)
			mustBe(t, b.q, b.room, b.list)
			if !alike(before, first) || !alike(told[0], first) {
				t.Fatalf("room %d: what Take handed out is in what was handed out before", room)
			}
		}
	}
}

// R4: what Take handed out is its taker's: later calls write nothing into it.
func TestTakenStays(t *testing.T) {
	b := newPair(3)
	taken, want := []api.Packet{}, []api.Packet{}
	for n := range 40 {
		b.put(t, n)
		b.put(t, n+50)
		want = append(want, b.list[0])
		p, _ := b.q.Take()
		taken = append(taken, p)
		b.list = b.list[1:]
	}
	if !allAlike(taken, want) {
		t.Errorf("%v, want %v", taken, want)
	}
}

// R4: lists within one answer share no memory.
func TestListsOfOneAnswerAreApart(t *testing.T) {
	data := []int{1, 2, 3}
	q := queue.New(3)
	for range 3 {
		q.Put(api.Packet{Data: data})
	}
	list := q.All()
	for i := range list {
		list[i].Data[0] = 10 + i
		_ = append(list[i].Data, 77)
	}
	for i := range list {
		if !reflect.DeepEqual(list[i].Data, []int{10 + i, 2, 3}) {
			t.Errorf("%d: %v", i, list[i].Data)
		}
	}
	if !reflect.DeepEqual(data, []int{1, 2, 3}) {
		t.Error(data)
	}
}
