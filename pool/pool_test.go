package pool_test

import (
	"math"
	"reflect"
	"testing"

	"chaplet/api"
	"chaplet/pool"
)

// numbered is a packet that no other number's is like: no field of it has the
// bounds of a right packet, since a pool asks for none.
func numbered(n int) api.Packet {
	p := api.Packet{Kind: n, From: n + 1, To: -n, ID: 3 * n, Line: n - 7, Ptr: n ^ 5, State: -2 * n, Flag: n%2 == 1}
	for i := range n % 6 {
		p.Data = append(p.Data, n+i)
	}
	return p
}

// alike takes nil and empty Data for the same (R4).
func alike(a, b api.Packet) bool {
	if len(a.Data) == 0 && len(b.Data) == 0 {
		a.Data, b.Data = nil, nil
	}
	return reflect.DeepEqual(a, b)
}

func allAlike(a, b []api.Packet) bool {
	if len(a) != len(b) {
		return false
	}
	for i := range a {
		if !alike(a[i], b[i]) {
			return false
		}
	}
	return true
}

// without is the list as it is when the one at that place has gone; it is new memory.
func without(list []api.Packet, at int) []api.Packet {
	left := []api.Packet{}
	for i, p := range list {
		if i != at {
			left = append(left, p)
		}
	}
	return left
}

// noPlaces are places that a pool of so many has not: just beside it, far off,
// and such as would be one if fewer digits of them were read.
func noPlaces(count int) []int {
	return []int{-1, -2, -count, -count - 1, count, count + 1, 1 << 8, 1 << 16, 1 << 32, -1 << 32, 1 << 62, math.MinInt, math.MinInt + 1, math.MaxInt - 1, math.MaxInt}
}

func isPlace(at, count int) bool {
	return 0 <= at && at < count
}

func mustOne(t *testing.T, call string, at int, p api.Packet, ok bool, want []api.Packet) {
	t.Helper()
	if !isPlace(at, len(want)) {
		if ok || !reflect.DeepEqual(p, api.Packet{}) {
			t.Fatalf("%s(%d) of %d: %v, %v", call, at, len(want), p, ok)
		}
		return
	}
	if !ok || !alike(p, want[at]) {
		t.Fatalf("%s(%d): %v, %v; want %v", call, at, p, ok, want[at])
	}
}

// mustBe holds all that a pool tells against a plain list of so much room.
func mustBe(t *testing.T, l *pool.Pool, room int, want []api.Packet) {
	t.Helper()
	if n := l.Len(); n != len(want) {
		t.Fatalf("room %d: Len %d, want %d", room, n, len(want))
	}
	if n := l.Room(); n != room-len(want) {
		t.Fatalf("room %d: Room %d, want %d", room, n, room-len(want))
	}
	if all := l.All(); !allAlike(all, want) {
		t.Fatalf("room %d: All %v, want %v", room, all, want)
	}
	for at := -2; at < len(want)+2; at++ {
		p, ok := l.Get(at)
		mustOne(t, "Get", at, p, ok, want)
	}
}

// pair is a pool beside the plain list that it is held against.
type pair struct {
	l    *pool.Pool
	room int
	list []api.Packet
}

func newPair(room int) *pair {
	return &pair{l: pool.New(room), room: max(room, 0)}
}

func (b *pair) put(t *testing.T, n int) {
	t.Helper()
	e := b.l.Put(numbered(n))
	if len(b.list) == b.room {
		if e != api.ErrFull {
			t.Fatalf("room %d: Put into a full one: %d", b.room, e)
		}
	} else {
		if e != api.OK {
			t.Fatalf("room %d: Put beside %d: %d", b.room, len(b.list), e)
		}
		b.list = append(b.list, numbered(n))
	}
	mustBe(t, b.l, b.room, b.list)
}

func (b *pair) remove(t *testing.T, at int) {
	t.Helper()
	p, ok := b.l.Remove(at)
	mustOne(t, "Remove", at, p, ok, b.list)
	b.list = without(b.list, at)
	mustBe(t, b.l, b.room, b.list)
}

func (b *pair) fill(t *testing.T) {
	t.Helper()
	for n := range b.room {
		b.put(t, 100+n)
	}
}

// P5.1, the example: Get of a new one is false, at every place; so is Remove.
func TestNewIsEmpty(t *testing.T) {
	for _, room := range []int{math.MinInt, math.MinInt + 1, -256, -3, -1, 0, 1, 2, 8, 9, 1 << 20, 1 << 40, math.MaxInt - 1, math.MaxInt} {
		b := newPair(room)
		mustBe(t, b.l, b.room, nil)
		for _, at := range append(noPlaces(0), 0, 1, room-1, room) {
			p, ok := b.l.Get(at)
			mustOne(t, "Get", at, p, ok, nil)
			b.remove(t, at)
		}
		b.put(t, 4)
		b.put(t, 5)
		b.remove(t, 0)
		b.remove(t, 0)
		b.remove(t, 0)
	}
}

// P5.1: a room of 0 or below takes nothing, however often it is tried.
func TestNoRoom(t *testing.T) {
	for _, room := range []int{0, -1, -2, -8, math.MinInt} {
		l := pool.New(room)
		for n := range 20 {
			if e := l.Put(numbered(n)); e != api.ErrFull {
				t.Fatalf("room %d: Put: %d", room, e)
			}
			p, ok := l.Remove(0)
			mustOne(t, "Remove", 0, p, ok, nil)
			mustBe(t, l, 0, nil)
		}
	}
}

// P5.1, R8: a place that is below 0, or past the last, is none, and asking for it changes nothing.
func TestNoPlace(t *testing.T) {
	for room := 1; room <= 9; room++ {
		b := newPair(room)
		for n := range room {
			b.put(t, n)
			for _, at := range noPlaces(len(b.list)) {
				p, ok := b.l.Get(at)
				mustOne(t, "Get", at, p, ok, b.list)
				b.remove(t, at)
			}
		}
		for len(b.list) > 0 { // the memory behind the last has had packets now
			b.remove(t, len(b.list)/2)
			for _, at := range noPlaces(len(b.list)) {
				p, ok := b.l.Get(at)
				mustOne(t, "Get", at, p, ok, b.list)
				b.remove(t, at)
			}
		}
	}
}

// P5.1: so many packets and no more go in, over and over; from each end, and from the middle, they go.
func TestFullAndEmptyAgain(t *testing.T) {
	places := []func(count int) int{
		func(int) int { return 0 },
		func(count int) int { return count - 1 },
		func(count int) int { return count / 2 },
	}
	for room := range 20 {
		b := newPair(room)
		for _, place := range places {
			b.fill(t)
			if b.l.Len() != room || b.l.Room() != 0 {
				t.Fatalf("room %d: full with %d, and room for %d", room, b.l.Len(), b.l.Room())
			}
			b.put(t, 7)
			b.put(t, 8)
			for range room + 2 {
				b.remove(t, place(len(b.list)))
			}
		}
	}
}

// P5.1: each one of a full pool goes; those behind it move up, and the next that comes is the last.
func TestEachPlace(t *testing.T) {
	for room := 1; room <= 12; room++ {
		for at := range room {
			b := newPair(room)
			b.fill(t)
			b.remove(t, at)
			b.put(t, 50)
			b.put(t, 51)
			if p, ok := b.l.Get(room - 1); !ok || !alike(p, numbered(50)) {
				t.Fatalf("room %d: behind all stands %v, %v", room, p, ok)
			}
		}
	}
}

// P5.1: places by number, told out: what goes, and where the others stand then.
func TestMoveUp(t *testing.T) {
	l := pool.New(5)
	for n := 1; n <= 5; n++ {
		l.Put(numbered(n))
	}
	steps := []struct {
		at, gone int
		left     []int
	}{
		{1, 2, []int{1, 3, 4, 5}},
		{3, 5, []int{1, 3, 4}},
		{0, 1, []int{3, 4}},
		{1, 4, []int{3}},
		{0, 3, nil},
	}
	for _, s := range steps {
		if p, ok := l.Remove(s.at); !ok || !alike(p, numbered(s.gone)) {
			t.Fatalf("Remove(%d): %v, %v; want the one of %d", s.at, p, ok, s.gone)
		}
		want := []api.Packet{}
		for _, n := range s.left {
			want = append(want, numbered(n))
		}
		mustBe(t, l, 5, want)
	}
}

// P5.1: each way of so many turns: one is put, or the one at a place goes (the last of these is often none).
func TestEachTurn(t *testing.T) {
	const turns, choices = 6, 4
	ways := 1
	for range turns {
		ways *= choices
	}
	for room := -1; room <= 4; room++ {
		for way := range ways {
			b := newPair(room)
			for i, left := 0, way; i < turns; i, left = i+1, left/choices {
				if c := left % choices; c == 0 {
					b.put(t, i+1)
				} else {
					b.remove(t, c-1)
				}
			}
		}
	}
}

// P5.1: each order in which all of a full pool go.
func TestEachOrder(t *testing.T) {
	for room := 1; room <= 6; room++ {
		orders := 1
		for i := range room {
			orders *= i + 1
		}
		for order := range orders {
			b := newPair(room)
			b.fill(t)
			for left := order; len(b.list) > 0; {
				at := left % len(b.list)
				left /= len(b.list)
				b.remove(t, at)
			}
		}
	}
}

// P5.1: long ways, now with more puts, now with more that go, from any place.
func TestManyTurns(t *testing.T) {
	for _, room := range []int{1, 2, 3, 5, 8, 13, 40} {
		b := newPair(room)
		digits := uint32(room)
		for n := range 2000 {
			digits = digits*1664525 + 1013904223
			puts := uint32(3)
			if n/(4*room)%2 == 1 {
				puts = 1
			}
			if digits>>16%4 < puts {
				b.put(t, n)
			} else {
				b.remove(t, int(digits>>20)%(len(b.list)+1))
			}
		}
	}
}

// P5.1: a room that is far greater than what comes, and what comes is much.
func TestMuch(t *testing.T) {
	const much = 100000
	l := pool.New(math.MaxInt)
	for n := range much {
		if e := l.Put(api.Packet{Kind: n, Data: []int{n}}); e != api.OK {
			t.Fatal(n, e)
		}
	}
	if l.Len() != much || l.Room() != math.MaxInt-much || len(l.All()) != much {
		t.Fatal(l.Len(), l.Room())
	}
	if p, ok := l.Remove(0); !ok || p.Kind != 0 {
		t.Fatal(p, ok)
	}
	for n := much - 1; n > 0; n-- {
		if p, ok := l.Get(n - 1); !ok || p.Kind != n {
			t.Fatal(n, p, ok)
		}
		if p, ok := l.Remove(n - 1); !ok || p.Kind != n || len(p.Data) != 1 || p.Data[0] != n {
			t.Fatal(n, p, ok)
		}
	}
	mustBe(t, l, math.MaxInt, nil)
}

// P5.1: a packet is taken as it is, of whatever kind; as often as it is put.
func TestAnyPacket(t *testing.T) {
	odd := []api.Packet{
		{},
		{},
		{Kind: math.MaxInt, From: math.MinInt, To: -1, ID: api.MaxID, Line: api.MaxLines, Ptr: -2, State: 3, Flag: true},
		{Kind: -1, Data: make([]int, 1000)},
		{Data: []int{math.MinInt, math.MaxInt}},
		{Data: []int{}},
		{Flag: true},
	}
	l := pool.New(len(odd))
	for i, p := range odd {
		if e := l.Put(p); e != api.OK {
			t.Fatal(i, e)
		}
	}
	mustBe(t, l, len(odd), odd)
	for i := range odd {
		p, ok := l.Remove(0)
		mustOne(t, "Remove", 0, p, ok, odd[i:])
	}
}

// P5.1: of packets that are alike, one goes, and the others stay.
func TestAlikeOnes(t *testing.T) {
	for at := range 4 {
		b := newPair(4)
		for _, n := range []int{9, 8, 9, 9} {
			b.put(t, n)
		}
		b.remove(t, at)
		b.remove(t, at)
	}
}

// P5.1: what is asked only changes nothing.
func TestAskingChangesNothing(t *testing.T) {
	b := newPair(4)
	for n := range 4 {
		for range 5 {
			mustBe(t, b.l, b.room, b.list)
		}
		b.put(t, n)
	}
	for range 5 {
		mustBe(t, b.l, b.room, b.list)
	}
}

// R5: two pools know nothing of each other.
func TestTwoPools(t *testing.T) {
	one, other := newPair(2), newPair(3)
	for n := range 30 {
		one.put(t, n)
		mustBe(t, other.l, other.room, other.list)
		other.put(t, 100+n)
		mustBe(t, one.l, one.room, one.list)
		if n%2 == 1 {
			one.remove(t, n%3)
		} else {
			other.remove(t, n%4)
		}
		mustBe(t, one.l, one.room, one.list)
		mustBe(t, other.l, other.room, other.list)
	}
}

func spoil(data []int) {
	data = data[:cap(data)]
	for i := range data {
		data[i] = -99
	}
}

func spoilAll(list []api.Packet) {
	for i := range list {
		spoil(list[i].Data)
	}
	list = list[:cap(list)]
	for i := range list {
		list[i] = api.Packet{Kind: -99, Data: []int{-99}}
	}
}

// within is Data with other words ahead of them and behind their length, in one memory.
func within(words ...int) (data, memory []int) {
	memory = append(append([]int{41, 42}, words...), 43, 44, 45)
	return memory[2 : 2+len(words)], memory
}

// R4: what is put is not changed, and not what lies behind its length.
func TestPutLeavesItsArgument(t *testing.T) {
	for words := range 5 {
		data, memory := within([]int{1, 2, 3, 4}[:words]...)
		before := append([]int(nil), memory...)
		l := pool.New(1)
		for range 3 { // the later ones are refused
			l.Put(api.Packet{Kind: 1, Data: data})
		}
		l.Get(0)
		l.All()
		p, _ := l.Remove(0)
		spoil(p.Data)
		if !reflect.DeepEqual(memory, before) {
			t.Errorf("%d words: %v, were %v", words, memory, before)
		}
	}
}

// R4: what is put is not kept: its Data are written into behind Put.
func TestPutKeepsNothing(t *testing.T) {
	const room = 5
	l := pool.New(room)
	want := []api.Packet{}
	for n := range room {
		data, memory := within([]int{n + 1, n + 2, n + 3, n + 4}[:n]...)
		l.Put(api.Packet{Kind: n, Data: data})
		want = append(want, api.Packet{Kind: n, Data: append([]int(nil), data...)})
		spoil(memory)
		mustBe(t, l, room, want)
	}
	for at := room - 1; at >= 0; at-- {
		p, ok := l.Remove(at)
		mustOne(t, "Remove", at, p, ok, want[:at+1])
	}
}

// R4: what behind the Data's length is put, is not handed out.
func TestNothingBehindTheLength(t *testing.T) {
	data, _ := within(1, 2)
	l := pool.New(2)
	l.Put(api.Packet{Data: data})
	l.Put(api.Packet{Data: data})
	got, _ := l.Get(1)
	list := l.All()
	removed, _ := l.Remove(1)
	for _, p := range []api.Packet{got, list[0], list[1], removed} {
		if !reflect.DeepEqual(p.Data, []int{1, 2}) {
			t.Error(p.Data)
		}
		for _, word := range p.Data[2:cap(p.Data)] {
			if word != 0 {
				t.Errorf("%d is told behind the length", word)
			}
		}
	}
}

// R4: what is handed out is written into, all of its memory: nothing in the
// pool is another one, and nothing that was handed out before.
func TestHandedOutIsNew(t *testing.T) {
	for room := 1; room <= 6; room++ {
		b := newPair(room)
		for n := range 6 * room {
			b.put(t, n+5)
			at := n % len(b.list)
			before, _ := b.l.Get(at)
			p, _ := b.l.Get(at)
			spoil(p.Data)
			mustBe(t, b.l, b.room, b.list)
			mustOne(t, "Get before", at, before, true, b.list)

			told := b.l.All()
			spoilAll(b.l.All())
			mustBe(t, b.l, b.room, b.list)
			if !allAlike(told, b.list) {
				t.Fatalf("room %d: All before: %v", room, told)
			}

			if n%3 != 0 {
				continue
			}
			wasAll := b.list
			removed, _ := b.l.Remove(at)
			b.list = without(b.list, at)
			if !alike(before, wasAll[at]) || !allAlike(told, wasAll) {
				t.Fatalf("room %d: Remove wrote into what was handed out", room)
			}
			spoil(removed.Data)
			mustBe(t, b.l, b.room, b.list)
			if !alike(before, wasAll[at]) || !allAlike(told, wasAll) {
				t.Fatalf("room %d: what Remove handed out is in what was handed out before", room)
			}
		}
	}
}

// R4: what Remove handed out is its taker's: later calls write nothing into it.
func TestRemovedStays(t *testing.T) {
	b := newPair(3)
	removed, want := []api.Packet{}, []api.Packet{}
	for n := range 40 {
		b.put(t, n)
		b.put(t, n+50)
		at := n % len(b.list)
		want = append(want, b.list[at])
		p, _ := b.l.Remove(at)
		removed = append(removed, p)
		b.list = without(b.list, at)
	}
	if !allAlike(removed, want) {
		t.Errorf("%v, want %v", removed, want)
	}
}

// R4: lists within one answer share no memory.
func TestListsOfOneAnswerAreApart(t *testing.T) {
	data := []int{1, 2, 3}
	l := pool.New(3)
	for range 3 {
		l.Put(api.Packet{Data: data})
	}
	list := l.All()
	for i := range list {
		list[i].Data[0] = 10 + i
		_ = append(list[i].Data, 77)
	}
	for i := range list {
		if !reflect.DeepEqual(list[i].Data, []int{10 + i, 2, 3}) {
			t.Errorf("%d: %v", i, list[i].Data)
		}
	}
	if !reflect.DeepEqual(data, []int{1, 2, 3}) {
		t.Error(data)
	}
}
