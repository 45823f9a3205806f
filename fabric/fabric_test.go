package fabric_test

import (
	"math"
	"reflect"
	"testing"

	"chaplet/api"
	"chaplet/fabric"
	"chaplet/plan"
)

// config is a right one; Lines and Words are the least, since the network asks nothing of them.
func config(nodes, out, in int) api.Config {
	c := api.Config{Nodes: nodes, Lines: 1, Words: 1, Sets: 1, Ways: 1, Out: out, In: in}
	if plan.Check(c) != api.OK {
		panic("the network is promised of right configurations alone")
	}
	return c
}

const (
	requests = 0
	answers  = 1
)

func sortOf(kind int) int {
	if kind <= api.Purge {
		return requests
	}
	return answers
}

// numbered is a right packet of that kind that no other number's is like.
func numbered(n, kind, from, to int) api.Packet {
	p := api.Packet{Kind: kind, From: from, To: to, ID: n % api.MaxID, Line: n % api.MaxLines, Ptr: n%(api.MaxNodes+1) - 1, State: n % 3, Flag: n%2 == 1}
	for i := range n % (api.MaxWords + 1) {
		p.Data = append(p.Data, (n+i)*0x0102030405060709)
	}
	return p
}

func request(n, from, to int) api.Packet {
	return numbered(n, api.Lock+n%6, from, to)
}

func answer(n, from, to int) api.Packet {
	return numbered(n, api.Granted+n%3, from, to)
}

func ofSort(sort, n, from, to int) api.Packet {
	if sort == requests {
		return request(n, from, to)
	}
	return answer(n, from, to)
}

// alike takes nil and empty Data for the same (R4).
func alike(a, b api.Packet) bool {
	if len(a.Data) == 0 && len(b.Data) == 0 {
		a.Data, b.Data = nil, nil
	}
	return reflect.DeepEqual(a, b)
}

func isNothing(p api.Packet) bool {
	return alike(p, api.Packet{})
}

// digits are those that a packet has on the wire: its head, its Data, its sum.
func digits(p api.Packet) int {
	return 8 * (10 + 8*len(p.Data) + 2)
}

// isSpoilt: of the sixteen digits of mask, the greatest first, one that is 1 falls on one of the packet's.
func isSpoilt(p api.Packet, bit int, mask uint16) bool {
	for i := range 16 {
		if mask&(0x8000>>i) == 0 {
			continue
		}
		if bit >= -i && bit < digits(p)-i {
			return true
		}
	}
	return false
}

// noNodes are nodes that a network of so many has not: just beside it, far
// off, and such as would be one if fewer digits of them were read, or if they
// were doubled.
func noNodes(count int) []int {
	return []int{-1, -2, -count, -count - 1, count, count + 1, 2 * count, api.MaxNodes, 99, 1 << 8, 1 << 16, 1 << 32, -1 << 32, 1 << 62, -1 << 62, math.MinInt, math.MinInt + 1, math.MaxInt - 1, math.MaxInt}
}

func noPlaces(count int) []int {
	return []int{-1, -2, -count, -count - 1, count, count + 1, 2*count + 1, 1 << 8, 1 << 16, 1 << 32, -1 << 32, 1 << 62, math.MinInt, math.MinInt + 1, math.MaxInt - 1, math.MaxInt}
}

// pair is a network beside plain lists of so much room each, that it is held against.
type pair struct {
	f      *fabric.Fabric
	c      api.Config
	pools  [api.MaxNodes][2][]api.Packet
	queues [api.MaxNodes][2][]api.Packet
}

func newPair(nodes, out, in int) *pair {
	c := config(nodes, out, in)
	return &pair{f: fabric.New(c), c: c}
}

func (b *pair) queueRoom(sort int) int {
	if sort == requests {
		return b.c.In
	}
	return 1
}

func (b *pair) isNode(node int) bool {
	return 0 <= node && node < b.c.Nodes
}

// under is all that is under way, in order.
func (b *pair) under() []api.Packet {
	list := []api.Packet{}
	for node := range b.c.Nodes {
		list = append(list, b.pools[node][requests]...)
		list = append(list, b.pools[node][answers]...)
	}
	return list
}

// mustBe holds all that a network tells, and changes nothing by telling, against the lists; and both against the rooms (T5).
func (b *pair) mustBe(t *testing.T) {
	t.Helper()
	want := b.under()
	if n := b.f.Under(); n != len(want) {
		t.Fatalf("Under %d, want %d", n, len(want))
	}
	for at := -2; at < len(want)+2; at++ {
		b.mustPacket(t, at, want)
	}
	for node := -1; node <= b.c.Nodes; node++ {
		b.mustNode(t, node)
	}
}

func (b *pair) mustPacket(t *testing.T, at int, want []api.Packet) {
	t.Helper()
	p, ok := b.f.Packet(at)
	if at < 0 || at >= len(want) {
		if ok || !isNothing(p) {
			t.Fatalf("Packet(%d) of %d: %v, %v", at, len(want), p, ok)
		}
	} else if !ok || !alike(p, want[at]) {
		t.Fatalf("Packet(%d): %v, %v; want %v", at, p, ok, want[at])
	}
}

func (b *pair) mustNode(t *testing.T, node int) {
	t.Helper()
	waiting, room := [2]int{}, [2]int{}
	if b.isNode(node) {
		for sort := range 2 {
			waiting[sort] = len(b.queues[node][sort])
			room[sort] = b.c.Out - len(b.pools[node][sort])
		}
	}
	asked, answered := b.f.Waiting(node)
	if asked != waiting[requests] || answered != waiting[answers] {
		t.Fatalf("Waiting(%d): %d, %d; want %v", node, asked, answered, waiting)
	}
	if asked > b.c.In || answered > 1 {
		t.Fatalf("Waiting(%d): %d, %d, more than there is room for", node, asked, answered)
	}
	for sort, request := range []bool{requests: true, answers: false} {
		n := b.f.Room(node, request)
		if n != room[sort] {
			t.Fatalf("Room(%d, %v): %d, want %d", node, request, n, room[sort])
		}
		if n < 0 || n > b.c.Out {
			t.Fatalf("Room(%d, %v): %d of %d", node, request, n, b.c.Out)
		}
	}
}

// send is of packets that packet.Check finds right.
func (b *pair) send(t *testing.T, p api.Packet) api.Errno {
	t.Helper()
	want := api.OK
	sort := sortOf(p.Kind)
	switch {
	case !b.isNode(p.From) || !b.isNode(p.To):
		want = api.ErrArg
	case len(b.pools[p.From][sort]) == b.c.Out:
		want = api.ErrFull
	default:
		b.pools[p.From][sort] = append(b.pools[p.From][sort], p)
	}
	if e := b.f.Send(p); e != want {
		t.Fatalf("Send(%v): %d, want %d", p, e, want)
	}
	b.mustBe(t)
	return want
}

func (b *pair) deliver(t *testing.T, at, bit int, mask uint16) api.Errno {
	t.Helper()
	want := b.delivered(at, bit, mask)
	if e := b.f.Deliver(at, bit, mask); e != want {
		t.Fatalf("Deliver(%d, %d, %#x): %d, want %d", at, bit, mask, e, want)
	}
	b.mustBe(t)
	return want
}

func (b *pair) delivered(at, bit int, mask uint16) api.Errno {
	list := b.under()
	if at < 0 || at >= len(list) {
		return api.ErrNone
	}
	p := list[at]
	sort := sortOf(p.Kind)
	if isSpoilt(p, bit, mask) {
		return api.ErrForm
	}
	if len(b.queues[p.To][sort]) == b.queueRoom(sort) {
		return api.ErrFull
	}
	b.queues[p.To][sort] = append(b.queues[p.To][sort], p)
	b.leave(at)
	return api.OK
}

func (b *pair) leave(at int) {
	for node := range b.c.Nodes {
		for sort := range 2 {
			l := b.pools[node][sort]
			if at < len(l) {
				b.pools[node][sort] = append(append([]api.Packet{}, l[:at]...), l[at+1:]...)
				return
			}
			at -= len(l)
		}
	}
}

func (b *pair) take(t *testing.T, node, sort int) {
	t.Helper()
	call := b.f.Request
	if sort == answers {
		call = b.f.Reply
	}
	p, ok := call(node)
	if !b.isNode(node) || len(b.queues[node][sort]) == 0 {
		if ok || !isNothing(p) {
			t.Fatalf("sort %d of node %d, of an empty queue: %v, %v", sort, node, p, ok)
		}
	} else {
		want := b.queues[node][sort][0]
		if !ok || !alike(p, want) {
			t.Fatalf("sort %d of node %d: %v, %v; want %v", sort, node, p, ok, want)
		}
		b.queues[node][sort] = b.queues[node][sort][1:]
	}
	b.mustBe(t)
}

// fill sends so many of the sort as there is room for, one to each node in turn.
func (b *pair) fill(t *testing.T, node, sort int) {
	t.Helper()
	for n := range b.c.Out {
		if e := b.send(t, ofSort(sort, 10*node+n, node, n%b.c.Nodes)); e != api.OK {
			t.Fatalf("node %d, sort %d: the %d. of %d: %d", node, sort, n, b.c.Out, e)
		}
	}
}

func (b *pair) drain(t *testing.T) {
	t.Helper()
	for len(b.under()) > 0 {
		to, sort := b.under()[0].To, sortOf(b.under()[0].Kind)
		if e := b.deliver(t, 0, 0, 0); e != api.OK {
			t.Fatalf("the first of all: %d", e)
		}
		b.take(t, to, sort)
	}
}

// next is a number that hangs on the last one alone.
func next(seed *uint32, below int) int {
	*seed = *seed*1664525 + 1013904223
	return int(*seed>>8) % below
}

// P6.1, P6.2, the example: Under of a new one is 0; nothing is there, nothing waits, all room is left.
func TestNewIsEmpty(t *testing.T) {
	for nodes := 1; nodes <= api.MaxNodes; nodes++ {
		for _, out := range []int{1, 2, api.MaxRoom} {
			for _, in := range []int{1, 2, api.MaxRoom} {
				b := newPair(nodes, out, in)
				if n := b.f.Under(); n != 0 {
					t.Fatalf("Under of a new one: %d", n)
				}
				b.mustBe(t)
				for node := -1; node <= nodes; node++ {
					b.take(t, node, requests)
					b.take(t, node, answers)
				}
				b.deliver(t, 0, 0, 0)
				for _, at := range noPlaces(0) {
					b.deliver(t, at, 0, 0xffff)
				}
			}
		}
	}
}

// P6.1: each kind has its pool: Lock to Purge that of requests, Granted to Told that of answers.
func TestSortOfEachKind(t *testing.T) {
	for kind := api.Lock; kind <= api.Told; kind++ {
		f := fabric.New(config(2, 3, 1))
		if e := f.Send(api.Packet{Kind: kind, From: 1, To: 0}); e != api.OK {
			t.Fatal(kind, e)
		}
		asked, answered := 3-f.Room(1, true), 3-f.Room(1, false)
		isRequest := kind == 1 || kind == 2 || kind == 3 || kind == 4 || kind == 5 || kind == 6
		if isRequest != (asked == 1) || isRequest == (answered == 1) || asked+answered != 1 {
			t.Errorf("kind %d: %d requests, %d answers", kind, asked, answered)
		}
		if e := f.Deliver(0, 0, 0); e != api.OK {
			t.Fatal(kind, e)
		}
		if r, a := f.Waiting(0); r != asked || a != answered {
			t.Errorf("kind %d: waiting %d, %d", kind, r, a)
		}
	}
}

// P6.1: what packet.Check refuses, each field at its edges: ErrArg, and nothing has changed.
func TestSendRefusesWrongPackets(t *testing.T) {
	wrong := []api.Packet{
		{},
		{Kind: -1}, {Kind: 0}, {Kind: 10}, {Kind: 257}, {Kind: math.MaxInt}, {Kind: math.MinInt},
		{Kind: 1, ID: -1}, {Kind: 1, ID: api.MaxID}, {Kind: 9, ID: math.MaxInt},
		{Kind: 1, Line: -1}, {Kind: 1, Line: api.MaxLines}, {Kind: 9, Line: math.MinInt},
		{Kind: 1, Ptr: -2}, {Kind: 1, Ptr: api.MaxNodes}, {Kind: 9, Ptr: 255},
		{Kind: 1, State: -1}, {Kind: 1, State: 3}, {Kind: 9, State: 256},
		{Kind: 1, Data: make([]int, api.MaxWords+1)}, {Kind: 9, Data: make([]int, 256)},
	}
	for nodes := 1; nodes <= api.MaxNodes; nodes++ {
		b := newPair(nodes, 2, 1)
		b.send(t, request(1, 0, 0))
		for _, p := range wrong {
			if e := b.f.Send(p); e != api.ErrArg {
				t.Errorf("Send(%v): %d", p, e)
			}
			b.mustBe(t)
		}
	}
}

// P6.1: From and To are nodes of the configuration, not of the greatest one.
func TestSendRefusesNoNodes(t *testing.T) {
	for nodes := 1; nodes <= api.MaxNodes; nodes++ {
		b := newPair(nodes, 1, 1)
		for sort := range 2 {
			for _, node := range noNodes(nodes) {
				for _, p := range []api.Packet{ofSort(sort, 1, node, 0), ofSort(sort, 2, 0, node), ofSort(sort, 3, node, node)} {
					if e := b.send(t, p); e != api.ErrArg {
						t.Fatalf("%d nodes: Send(%v): %d", nodes, p, e)
					}
				}
			}
			for node := range nodes {
				if e := b.send(t, ofSort(sort, 4, node, nodes-1-node)); e != api.OK {
					t.Fatalf("%d nodes: from %d: %d", nodes, node, e)
				}
			}
		}
	}
}

// P6.1: a line past those of the configuration, and more Data than its words, are the nodes' business: packet.Check takes them.
func TestSendAsksNothingOfLines(t *testing.T) {
	b := newPair(1, 2, 2)
	whole := api.Packet{Kind: api.Lock, Line: api.MaxLines - 1, Data: []int{1, 2, 3, 4}}
	if e := b.send(t, whole); e != api.OK {
		t.Fatal(e)
	}
	b.deliver(t, 0, 0, 0)
	b.take(t, 0, requests)
}

// P6.1, R2: where the pool is full as well, ErrArg is met first.
func TestSendErrorsInOrder(t *testing.T) {
	b := newPair(2, 1, 1)
	for node := range 2 {
		b.fill(t, node, requests)
		b.fill(t, node, answers)
	}
	for _, p := range []api.Packet{
		{Kind: api.Lock, To: 2}, {Kind: api.Done, From: 1, To: -1}, {Kind: api.Lock, From: 2},
		{Kind: api.Lock, ID: -1}, {Kind: api.Told, State: 3}, {Kind: 10},
	} {
		if e := b.f.Send(p); e != api.ErrArg {
			t.Errorf("Send(%v): %d", p, e)
		}
		b.mustBe(t)
	}
	if e := b.send(t, request(1, 0, 1)); e != api.ErrFull {
		t.Error(e)
	}
}

// P6.1, T5: a pool that is full of its sort takes no more; the other sort, and other nodes, are taken.
func TestFullPool(t *testing.T) {
	for out := 1; out <= api.MaxRoom; out++ {
		for sort := range 2 {
			for node := range 3 {
				b := newPair(3, out, 1)
				b.fill(t, node, sort)
				for n := range 5 {
					if e := b.send(t, ofSort(sort, n, node, n%3)); e != api.ErrFull {
						t.Fatalf("out %d: Send into a full pool: %d", out, e)
					}
				}
				b.fill(t, node, 1-sort)
				b.fill(t, (node+1)%3, sort)
				b.fill(t, (node+2)%3, 1-sort)
				if n := b.f.Under(); n != 4*out {
					t.Fatalf("out %d: Under %d", out, n)
				}
				b.drain(t)
				b.fill(t, node, sort)
			}
		}
	}
}

// P6.1: the order told out: requests of node 0, its answers, those of node 1, whenever they were sent.
func TestOrder(t *testing.T) {
	f := fabric.New(config(3, 2, 1))
	for i, s := range []struct{ kind, from int }{
		{api.Told, 2}, {api.Lock, 2}, {api.Done, 1}, {api.Granted, 0}, {api.Purge, 1}, {api.Unlock, 0},
		{api.Attach, 0}, {api.SetFwd, 1}, {api.Told, 1}, {api.Done, 0}, {api.SetBack, 2}, {api.Granted, 2},
	} {
		if e := f.Send(api.Packet{Kind: s.kind, From: s.from, To: i % 3, ID: i}); e != api.OK {
			t.Fatal(i, e)
		}
	}
	for at, id := range []int{5, 6, 3, 9, 4, 7, 2, 8, 1, 10, 0, 11} {
		if p, ok := f.Packet(at); !ok || p.ID != id || p.To != id%3 {
			t.Errorf("Packet(%d): %v, %v; want ID %d", at, p, ok, id)
		}
	}
}

// P6.1, P6.2, R8: a place that is below 0, or past the last, is none, spoilt or not; nothing has changed.
func TestNoPlace(t *testing.T) {
	b := newPair(3, 2, 1)
	for n := range 12 {
		for _, at := range noPlaces(len(b.under())) {
			b.mustPacket(t, at, b.under())
			for _, mask := range []uint16{0, 1, 0x8000, 0xffff} {
				if e := b.deliver(t, at, n, mask); e != api.ErrNone {
					t.Fatalf("Deliver(%d) of %d: %d", at, len(b.under()), e)
				}
			}
		}
		b.send(t, ofSort(n/3%2, n, n%3, n%2))
	}
}

// P6.1, P6.2, R8: nodes that there are not have no room, nothing waits for them, and nothing comes.
func TestNoNode(t *testing.T) {
	for nodes := 1; nodes <= api.MaxNodes; nodes++ {
		b := newPair(nodes, 2, 2)
		for node := range nodes {
			for sort := range 2 {
				b.send(t, ofSort(sort, node, node, node))
				b.deliver(t, 0, 0, 0)
				b.send(t, ofSort(sort, node+9, node, 0))
			}
		}
		for _, node := range noNodes(nodes) {
			b.mustNode(t, node)
			b.take(t, node, requests)
			b.take(t, node, answers)
		}
	}
}

// P6.2: each one of all that is under way goes into the queue of its node, of its sort, and into no other; those behind it move up.
func TestDeliverEachPlace(t *testing.T) {
	for at := range 12 {
		b := newPair(3, 2, 2)
		for node := range 3 {
			b.fill(t, node, requests)
			b.fill(t, node, answers)
		}
		p := b.under()[at]
		if e := b.deliver(t, at, 0, 0); e != api.OK {
			t.Fatal(at, e)
		}
		for node := range 3 {
			asked, answered := b.f.Waiting(node)
			if got := [2]int{asked, answered}; (got[sortOf(p.Kind)] == 1) != (node == p.To) || got[1-sortOf(p.Kind)] != 0 {
				t.Fatalf("place %d, to %d: node %d has %v", at, p.To, node, got)
			}
		}
		b.take(t, p.To, 1-sortOf(p.Kind))
		b.take(t, (p.To+1)%3, sortOf(p.Kind))
		b.take(t, p.To, sortOf(p.Kind))
	}
}

// P6.2: they come out in the order in which they were delivered, not sent.
func TestOrderOfDelivery(t *testing.T) {
	f := fabric.New(config(3, 3, 8))
	for id := range 9 {
		f.Send(api.Packet{Kind: api.Lock, From: id / 3, To: 1, ID: id})
	}
	for _, at := range []int{8, 0, 3, 3, 0, 3, 1, 1} {
		if e := f.Deliver(at, 0, 0); e != api.OK {
			t.Fatal(at, e)
		}
	}
	for _, id := range []int{8, 0, 4, 5, 1, 7, 3, 6} {
		if p, ok := f.Request(1); !ok || p.ID != id {
			t.Errorf("%v, %v; want ID %d", p, ok, id)
		}
	}
}

// P6.2: a packet comes as it was sent, with each field at its edges.
func TestComesWhole(t *testing.T) {
	for kind := api.Lock; kind <= api.Told; kind++ {
		for words := range api.MaxWords + 1 {
			for _, p := range []api.Packet{
				{Kind: kind, Ptr: api.None},
				{Kind: kind, From: 5, To: 5, ID: api.MaxID - 1, Line: api.MaxLines - 1, Ptr: 5, State: api.Gone, Flag: true},
				{Kind: kind, From: 1, To: 4, ID: 0x0a0b, Line: 3, Ptr: 2, State: api.Fresh},
			} {
				p.Data = []int{math.MinInt, math.MaxInt, -1, 0x0102030405060708}[:words]
				b := newPair(6, 1, 1)
				b.send(t, p)
				b.deliver(t, 0, 0, 0)
				b.take(t, p.To, sortOf(kind))
			}
		}
	}
}

// P6.2, T5: from each bit on that may meet it, and from some that do not, by some masks: what meets it is found, and it stays.
func TestSpoiltAtEachBit(t *testing.T) {
	masks := []uint16{0, 1, 2, 0x0100, 0x4000, 0x8000, 0x8001, 0x1021, 0x8810, 0xaaaa, 0x00ff, 0xffff}
	for words := range api.MaxWords + 1 {
		p := api.Packet{Kind: api.Told, From: 1, ID: 77, Ptr: 1, Flag: true, Data: []int{5, -6, 7, -8}[:words]}
		end := digits(p)
		bits := []int{math.MinInt, math.MinInt + 15, -1 << 32, 1 << 32, math.MaxInt - 15, math.MaxInt}
		for bit := -20; bit < end+20; bit++ {
			bits = append(bits, bit)
		}
		for _, bit := range bits {
			for _, mask := range masks {
				b := newPair(2, 1, 1)
				b.send(t, p)
				want := api.OK
				if isSpoilt(p, bit, mask) {
					want = api.ErrForm
				}
				if e := b.deliver(t, 0, bit, mask); e != want {
					t.Fatalf("%d words, from %d by %#x: %d, want %d", words, bit, mask, e, want)
				}
			}
		}
	}
}

// P6.2: the edges told out: a Lock has 96 digits.
func TestSpoiltAtTheEdges(t *testing.T) {
	rows := []struct {
		bit  int
		mask uint16
		want api.Errno
	}{
		{0, 0, api.OK}, {50, 0, api.OK}, {-1, 0, api.OK},
		{0, 0x8000, api.ErrForm}, {0, 1, api.ErrForm}, {40, 0x0180, api.ErrForm},
		{95, 0x8000, api.ErrForm}, {95, 0x7fff, api.OK}, {96, 0xffff, api.OK}, {500, 0xffff, api.OK},
		{80, 1, api.ErrForm}, {81, 1, api.OK}, {81, 2, api.ErrForm},
		{-15, 1, api.ErrForm}, {-15, 0xfffe, api.OK}, {-16, 0xffff, api.OK}, {-1, 0x8000, api.OK}, {-1, 0x4000, api.ErrForm},
		{math.MinInt, 0xffff, api.OK}, {math.MaxInt, 0xffff, api.OK},
	}
	for _, r := range rows {
		f := fabric.New(config(1, 1, 1))
		f.Send(api.Packet{Kind: api.Lock})
		if e := f.Deliver(0, r.bit, r.mask); e != r.want {
			t.Errorf("Deliver(0, %d, %#x): %d, want %d", r.bit, r.mask, e, r.want)
		}
		if left := f.Under(); (left == 0) != (r.want == api.OK) {
			t.Errorf("Deliver(0, %d, %#x): %d are left", r.bit, r.mask, left)
		}
	}
}

// P6.2, T5: spoilt again and again, each by another mask: it stays under way as it was, at its place, and may be delivered then.
func TestSpoiltAgainAndAgain(t *testing.T) {
	b := newPair(2, 3, 8)
	for node := range 2 {
		b.fill(t, node, requests)
		b.fill(t, node, answers)
	}
	for at := range len(b.under()) {
		for mask := uint32(1); mask <= 0xffff; mask = 3*mask + 1 {
			for bit := range 90 {
				if e := b.f.Deliver(at, bit, uint16(mask)|0x8000); e != api.ErrForm {
					t.Fatalf("Deliver(%d, %d, %#x): %d", at, bit, mask, e)
				}
			}
			b.mustBe(t)
		}
	}
	for len(b.under()) > 0 {
		last := b.under()[len(b.under())-1]
		b.deliver(t, len(b.under())-1, 0, 0)
		b.take(t, last.To, sortOf(last.Kind))
	}
}

// P6.2, T5: In requests wait for a node and no more, and one answer, whatever In is; the others stay where they are.
func TestFullQueue(t *testing.T) {
	for in := 1; in <= api.MaxRoom; in++ {
		for sort := range 2 {
			b := newPair(3, api.MaxRoom, in)
			for n := range api.MaxRoom {
				b.send(t, ofSort(sort, n, n%2, 2))
				b.send(t, ofSort(sort, n+50, 2, 2))
			}
			room := b.queueRoom(sort)
			for n := range room {
				if e := b.deliver(t, n%3, 0, 0); e != api.OK {
					t.Fatalf("in %d: the %d. of %d: %d", in, n, room, e)
				}
			}
			b.mustAllBeFull(t)
			b.take(t, 2, sort)
			if e := b.deliver(t, 1, 0, 0); e != api.OK {
				t.Fatalf("in %d: behind Take: %d", in, e)
			}
			b.mustAllBeFull(t)
			b.otherQueuesTake(t, sort)
		}
	}
}

func (b *pair) mustAllBeFull(t *testing.T) {
	t.Helper()
	for at := range len(b.under()) {
		for range 2 {
			if e := b.deliver(t, at, 0, 0); e != api.ErrFull {
				t.Fatalf("Deliver(%d) into a full queue: %d", at, e)
			}
		}
	}
}

// otherQueuesTake: while node 2's queue of the sort is full, its other one, and those of other nodes, are not.
func (b *pair) otherQueuesTake(t *testing.T, sort int) {
	t.Helper()
	for _, p := range []api.Packet{ofSort(1-sort, 3, 0, 2), ofSort(sort, 4, 0, 1), ofSort(sort, 5, 0, 0)} {
		if e := b.send(t, p); e != api.OK {
			t.Fatalf("Send(%v): %d", p, e)
		}
		at := 0
		for i, x := range b.under() {
			if alike(x, p) {
				at = i
			}
		}
		if e := b.deliver(t, at, 0, 0); e != api.OK {
			t.Fatalf("Deliver(%v): %d", p, e)
		}
	}
}

// P6.2, R2: a place that there is not is met first, what is spoilt ahead of what is full.
func TestDeliverErrorsInOrder(t *testing.T) {
	for sort := range 2 {
		b := newPair(2, 2, 1)
		b.send(t, ofSort(sort, 1, 0, 1))
		b.send(t, ofSort(sort, 2, 0, 1))
		b.deliver(t, 0, 0, 0)
		for _, r := range []struct {
			at, bit int
			mask    uint16
			want    api.Errno
		}{
			{0, 3, 0x8001, api.ErrForm},
			{0, 3, 0, api.ErrFull},
			{0, -16, 0xffff, api.ErrFull},
			{0, 9999, 0xffff, api.ErrFull},
			{1, 3, 0x8001, api.ErrNone},
			{1, 3, 0, api.ErrNone},
			{-1, 3, 0x8001, api.ErrNone},
		} {
			if e := b.deliver(t, r.at, r.bit, r.mask); e != r.want {
				t.Errorf("Deliver(%d, %d, %#x): %d, want %d", r.at, r.bit, r.mask, e, r.want)
			}
		}
	}
}

// P6.1, P6.2: one node with one place everywhere sends to itself.
func TestLeast(t *testing.T) {
	b := newPair(1, 1, 1)
	for n := range 20 {
		for sort := range 2 {
			b.send(t, ofSort(sort, n, 0, 0))
			b.send(t, ofSort(sort, n+1, 0, 0)) // the pool is full
			b.deliver(t, 0, 0, 0)
			b.send(t, ofSort(sort, n+2, 0, 0))
			b.deliver(t, 0, 0, 0) // the queue is full
			b.take(t, 0, sort)
			b.deliver(t, 0, 0, 0)
			b.take(t, 0, sort)
			b.take(t, 0, sort)
		}
	}
	b.mustBe(t)
}

// P6.1, P6.2, T5: each way of so many turns, between two nodes with the least room.
func TestEachTurn(t *testing.T) {
	turns := []func(b *pair, n int){
		func(b *pair, n int) { b.send(t, request(n, 0, 1)) },
		func(b *pair, n int) { b.send(t, answer(n, 0, 1)) },
		func(b *pair, n int) { b.send(t, request(n, 1, 1)) },
		func(b *pair, n int) { b.deliver(t, 0, 0, 0) },
		func(b *pair, n int) { b.deliver(t, 1, 0, 0) },
		func(b *pair, n int) { b.deliver(t, 0, n, 0x8003) },
		func(b *pair, n int) { b.take(t, 1, requests) },
		func(b *pair, n int) { b.take(t, 1, answers) },
	}
	const count = 5
	ways := 1
	for range count {
		ways *= len(turns)
	}
	for way := range ways {
		b := newPair(2, 1, 1)
		for n, left := 0, way; n < count; n, left = n+1, left/len(turns) {
			turns[left%len(turns)](b, n)
		}
	}
}

// P6.1, P6.2, T5: long ways, of every number of nodes, now with more that are sent, now with more that go.
func TestManyTurns(t *testing.T) {
	for nodes := 1; nodes <= api.MaxNodes; nodes++ {
		for room := 1; room <= api.MaxRoom; room++ {
			b := newPair(nodes, room, api.MaxRoom+1-room)
			seed := uint32(100*nodes + room)
			met := [7]int{}
			for n := range 1500 {
				met[b.turn(t, &seed, n, n/100%2 == 0)]++
			}
			for _, e := range []api.Errno{api.OK, api.ErrArg, api.ErrForm, api.ErrNone, api.ErrFull} {
				if met[e] == 0 {
					t.Errorf("%d nodes, room %d: no turn met %d", nodes, room, e)
				}
			}
		}
	}
}

func (b *pair) turn(t *testing.T, seed *uint32, n int, more bool) api.Errno {
	t.Helper()
	some := next(seed, 16)
	switch {
	case some == 0:
		return b.send(t, ofSort(next(seed, 2), n, next(seed, b.c.Nodes), b.c.Nodes))
	case some < 4 || more && some < 9:
		return b.send(t, ofSort(next(seed, 2), n, next(seed, b.c.Nodes), next(seed, b.c.Nodes)))
	case some < 10:
		return b.deliver(t, next(seed, len(b.under())+2)-1, 0, 0)
	case some == 10:
		return b.deliver(t, next(seed, len(b.under())+1), next(seed, 400)-20, uint16(next(seed, 1<<16)))
	}
	b.take(t, next(seed, b.c.Nodes), next(seed, 2))
	return api.OK
}

// P6.1, P6.2: all that is sent comes once, if it is delivered, however often it was spoilt on the way.
func TestNothingIsLostOrTwice(t *testing.T) {
	b := newPair(4, api.MaxRoom, api.MaxRoom)
	for node := range 4 {
		b.fill(t, node, requests)
		b.fill(t, node, answers)
	}
	came := 0
	for seed := uint32(7); b.f.Under() > 0; {
		at := next(&seed, b.f.Under())
		p, _ := b.f.Packet(at)
		b.deliver(t, at, 20, uint16(next(&seed, 2)))
		r, a := b.f.Waiting(p.To)
		b.take(t, p.To, requests)
		b.take(t, p.To, answers)
		came += min(r, 1) + min(a, 1)
	}
	if came != 8*api.MaxRoom {
		t.Errorf("%d came", came)
	}
}

// P6.1, P6.2: what is asked only changes nothing.
func TestAskingChangesNothing(t *testing.T) {
	b := newPair(2, 2, 2)
	for n := range 8 {
		b.send(t, ofSort(n%2, n, n/2%2, n/4))
		for range 5 {
			b.mustBe(t)
		}
	}
}

// R5: two networks know nothing of each other.
func TestTwoFabrics(t *testing.T) {
	one, other := newPair(2, 2, 1), newPair(3, 1, 2)
	seed := uint32(5)
	for n := range 400 {
		one.turn(t, &seed, n, true)
		other.mustBe(t)
		other.turn(t, &seed, n, false)
		one.mustBe(t)
	}
}

func spoil(data []int) {
	data = data[:cap(data)]
	for i := range data {
		data[i] = -99
	}
}

// within is Data with other words ahead of them and behind their length, in one memory.
func within(words ...int) (data, memory []int) {
	memory = append(append([]int{41, 42}, words...), 43, 44, 45)
	return memory[2 : 2+len(words)], memory
}

// R4: what is sent is not changed, and not what lies behind its length, whatever becomes of it.
func TestSendLeavesItsArgument(t *testing.T) {
	for words := range api.MaxWords + 1 {
		data, memory := within([]int{1, 2, 3, 4}[:words]...)
		before := append([]int(nil), memory...)
		f := fabric.New(config(1, 1, 1))
		for range 3 { // the later ones are refused
			f.Send(api.Packet{Kind: api.Lock, Data: data})
		}
		f.Send(api.Packet{Kind: api.Lock, From: 1, Data: data})
		p, _ := f.Packet(0)
		spoil(p.Data)
		f.Deliver(0, 30, 0x8001)
		f.Deliver(0, 0, 0)
		p, _ = f.Request(0)
		spoil(p.Data)
		if !reflect.DeepEqual(memory, before) {
			t.Errorf("%d words: %v, were %v", words, memory, before)
		}
	}
}

// R4: what is sent is not kept: its Data are written into behind Send, and nothing in the network is another one.
func TestSendKeepsNothing(t *testing.T) {
	for sort := range 2 {
		for words := range api.MaxWords + 1 {
			b := newPair(2, 2, 1)
			want := ofSort(sort, 30+words, 0, 1)
			p := want
			data, memory := within(want.Data...)
			p.Data = data
			b.f.Send(p)
			b.pools[0][sort] = []api.Packet{want}
			spoil(memory)
			b.mustBe(t)
			b.deliver(t, 0, 12, 0xffff)
			b.deliver(t, 0, 0, 0)
			spoil(memory)
			b.take(t, 1, sort)
		}
	}
}

// R4: what Packet, Request and Reply hand out is written into, all of its
// memory: nothing in the network is another one, and nothing that was handed
// out before.
func TestHandedOutIsNew(t *testing.T) {
	for sort := range 2 {
		want := ofSort(sort, 34, 0, 1)
		b := newPair(2, 2, 2)
		b.send(t, want)
		b.send(t, want)
		b.send(t, want) // refused
		told := []api.Packet{}
		for at := range 2 {
			first, _ := b.f.Packet(at)
			told = append(told, first)
			p, _ := b.f.Packet(at)
			spoil(p.Data)
			b.mustBe(t)
		}
		b.deliver(t, 0, 0, 0)
		p, _ := b.f.Packet(0)
		spoil(p.Data)
		b.mustBe(t)
		b.mustTakeAlone(t, sort, want)
		b.mustBe(t)
		b.deliver(t, 0, 0, 0)
		b.mustTakeAlone(t, sort, want)
		for _, p := range told {
			if !alike(p, want) {
				t.Errorf("what Packet handed out is %v now, was %v", p, want)
			}
		}
	}
}

// mustTakeAlone takes node 1's first, and writes into it.
func (b *pair) mustTakeAlone(t *testing.T, sort int, want api.Packet) {
	t.Helper()
	call := b.f.Request
	if sort == answers {
		call = b.f.Reply
	}
	p, ok := call(1)
	if !ok || !alike(p, want) {
		t.Fatalf("%v, %v; want %v", p, ok, want)
	}
	spoil(p.Data)
	b.queues[1][sort] = b.queues[1][sort][1:]
}

// R4: one packet that is sent twice is two, which share no memory in what is handed out.
func TestSentTwiceIsTwo(t *testing.T) {
	data := []int{1, 2, 3}
	f := fabric.New(config(1, 2, 2))
	for range 2 {
		f.Send(api.Packet{Kind: api.Lock, Data: data})
	}
	f.Deliver(0, 0, 0)
	f.Deliver(0, 0, 0)
	first, _ := f.Request(0)
	first.Data[0] = 10
	_ = append(first.Data, 77)
	second, _ := f.Request(0)
	if !reflect.DeepEqual(second.Data, []int{1, 2, 3}) || !reflect.DeepEqual(data, []int{1, 2, 3}) {
		t.Error(second.Data, data)
	}
}

// R4: what was taken is its taker's: later calls write nothing into it.
func TestTakenStays(t *testing.T) {
	f := fabric.New(config(2, 1, 1))
	taken := []api.Packet{}
	for n := range 60 {
		f.Send(request(n, 0, 1))
		f.Deliver(0, 0, 0)
		p, _ := f.Request(1)
		taken = append(taken, p)
	}
	for n, p := range taken {
		if !alike(p, request(n, 0, 1)) {
			t.Errorf("%d: %v", n, p)
		}
	}
}

// R4: New neither changes nor keeps the configuration's list.
func TestNewLeavesItsArgument(t *testing.T) {
	c := config(2, 1, 1)
	init, memory := within(7)
	c.Init = init
	b := &pair{f: fabric.New(c), c: c}
	if !reflect.DeepEqual(memory, []int{41, 42, 7, 43, 44, 45}) {
		t.Error(memory)
	}
	spoil(memory)
	b.send(t, request(1, 0, 1))
	b.deliver(t, 0, 0, 0)
	b.take(t, 1, requests)
}
