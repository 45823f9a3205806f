package home_test

import (
	"math"
	"slices"
	"testing"

	"chaplet/api"
	"chaplet/home"
	"chaplet/memdir"
	"chaplet/packet"
)

// odd are numbers at the edges: of kinds, of nodes, of lines, of ids, of what fewer digits can tell.
var odd = []int{-1, 0, 1, 2, 3, 4, 5, 6, 7, 8, 9, 10, -2, -3, -6, 255, 256, 4095, 4096, 1<<16 - 1, 1 << 16, 1 << 32, 1<<32 + 1, -1 << 32, 1 << 62, math.MinInt, math.MinInt + 1, math.MaxInt - 1, math.MaxInt}

// some is a configuration of several nodes, lines and words; its Init ends
// within line 2. Node 1 is the home of the lines 1 and 4.
func some() api.Config {
	return api.Config{Nodes: 3, Lines: 5, Words: 3, Sets: 2, Ways: 2, Out: 2, In: 3, Init: []int{10, -11, 12, 13, 14, math.MinInt, math.MaxInt}}
}

func counting(n, from int) []int {
	list := make([]int, n)
	for i := range list {
		list[i] = from + i
	}
	return list
}

// each calls f with every number of nodes, lines and words that may be, and
// every node of them; without Init, with a part of it, with all of it.
func each(f func(c api.Config, node int)) {
	for nodes := 1; nodes <= api.MaxNodes; nodes++ {
		for lines := 1; lines <= api.MaxLines; lines++ {
			for words := 1; words <= api.MaxWords; words++ {
				for _, n := range []int{0, lines*words/2 + 1, lines * words} {
					c := api.Config{Nodes: nodes, Lines: lines, Words: words, Sets: 1 + lines%4, Ways: 1 + nodes%3, Out: 8, In: 1, Init: counting(n, 100)}
					for node := range nodes {
						f(c, node)
					}
				}
			}
		}
	}
}

// spoil writes into all of the numbers' memory, what lies behind their length too.
func spoil(numbers []int) {
	whole := numbers[:cap(numbers)]
	for i := range whole {
		whole[i] = -777 - i
	}
}

// roomy is a list of these words, with others behind its length in its memory.
func roomy(words ...int) []int {
	return append(slices.Clone(words), 501, 502, 503, 504, 505)[:len(words)]
}

type ask struct{ who, id int }

// line is what a home has to know of one of its lines, by plain means.
type line struct {
	state, head int
	data        []int
	owner       int
	wait        []ask
}

// pair is a home beside what it is held against.
type pair struct {
	h     *home.Home
	c     api.Config
	node  int
	lines []*line // nil: not here
}

// newPair deals the lines round, and the words of Init line by line.
func newPair(c api.Config, node int) *pair {
	b := &pair{h: home.New(c, node), c: c, node: node}
	words, next := slices.Clone(c.Init), 0
	for len(words) < c.Lines*c.Words {
		words = append(words, 0)
	}
	for range c.Lines {
		var l *line
		if next == node {
			l = &line{state: 0, head: -1, data: words[:c.Words], owner: -1}
		}
		b.lines = append(b.lines, l)
		words = words[c.Words:]
		if next++; next == c.Nodes {
			next = 0
		}
	}
	return b
}

func (b *pair) at(line int) *line {
	if line < 0 || line >= len(b.lines) {
		return nil
	}
	return b.lines[line]
}

// here are the lines whose home it is.
func (b *pair) here() []int {
	lines := []int{}
	for at, l := range b.lines {
		if l != nil {
			lines = append(lines, at)
		}
	}
	return lines
}

// ready is the first line that has no owner, but somebody waits; -1: none.
func (b *pair) ready() int {
	for at, l := range b.lines {
		if l != nil && l.owner == -1 && len(l.wait) > 0 {
			return at
		}
	}
	return -1
}

// must asks all that is told without changing anything.
func (b *pair) must(t *testing.T) {
	t.Helper()
	for at := -1; at <= b.c.Lines; at++ {
		b.mustLine(t, at)
	}
	if got, want := b.h.Pending(), b.ready() != -1; got != want {
		t.Fatalf("%+v, node %d: Pending %v, want %v", b.c, b.node, got, want)
	}
}

func (b *pair) mustLine(t *testing.T, at int) {
	t.Helper()
	want, owner, waiting, here := memdir.Row{}, -1, 0, false
	if l := b.at(at); l != nil {
		want, here = memdir.Row{State: l.state, Head: l.head, Data: l.data}, true
		owner, waiting = l.owner, len(l.wait)
	}
	got, ok := b.h.Row(at)
	if ok != here || got.State != want.State || got.Head != want.Head || !slices.Equal(got.Data, want.Data) {
		t.Fatalf("%+v, node %d: Row(%d) %v, %v; want %v, %v", b.c, b.node, at, got, ok, want, here)
	}
	if got := b.h.Owner(at); got != owner {
		t.Fatalf("%+v, node %d: Owner(%d) %d, want %d", b.c, b.node, at, got, owner)
	}
	if got := b.h.Waiting(at); got != waiting {
		t.Fatalf("%+v, node %d: Waiting(%d) %d, want %d", b.c, b.node, at, got, waiting)
	}
}

func within(least, n, most int) bool {
	return least <= n && n <= most
}

// isPacket is packet.Check, by the document's numbers.
func isPacket(p api.Packet) bool {
	return within(1, p.Kind, 9) && within(0, p.From, 5) && within(0, p.To, 5) && within(0, p.ID, 4095) &&
		within(0, p.Line, 7) && within(-1, p.Ptr, 5) && within(0, p.State, 2) && len(p.Data) <= 4
}

// wanted is the error that Handle has to answer, by the document's words in their order.
func (b *pair) wanted(p api.Packet) api.Errno {
	if !isPacket(p) || p.To != b.node || p.From > b.c.Nodes-1 || p.Kind != 1 && p.Kind != 2 {
		return 1 // ErrArg
	}
	l := b.at(p.Line)
	switch {
	case l == nil:
		return 3 // ErrNone
	case p.Kind == 1:
		return 0 // OK
	case l.owner != p.From:
		return 6 // ErrState
	case p.Ptr > b.c.Nodes-1, p.Ptr == -1 && p.State != 0, p.Ptr != -1 && p.State == 0:
		return 1 // ErrArg
	case p.Flag && len(p.Data) != 0 && len(p.Data) != b.c.Words:
		return 1 // ErrArg
	}
	return 0 // OK
}

// granted is the answer by which who has the line.
func (b *pair) granted(at, who, id int) api.Packet {
	l := b.lines[at]
	return api.Packet{Kind: 7, From: b.node, To: who, ID: id, Line: at, Ptr: l.head, State: l.state, Data: slices.Clone(l.data)}
}

// do does what is asked for to what the home is held against: the answer, if there is one now.
func (b *pair) do(p api.Packet) (api.Packet, bool) {
	l := b.lines[p.Line]
	if p.Kind == 1 {
		if l.owner != -1 || len(l.wait) > 0 {
			l.wait = append(l.wait, ask{p.From, p.ID})
			return api.Packet{}, false
		}
		l.owner = p.From
		return b.granted(p.Line, p.From, p.ID), true
	}
	l.state, l.head, l.owner = p.State, p.Ptr, -1
	if p.Flag && len(p.Data) > 0 {
		l.data = slices.Clone(p.Data)
	}
	return api.Packet{Kind: 8, From: b.node, To: p.From, ID: p.ID, Line: p.Line}, true
}

// handle hands the packet to both, and holds the answers against each other;
// the packet's Data are written into as soon as they are handled.
func (b *pair) handle(t *testing.T, p api.Packet) api.Errno {
	t.Helper()
	given := p
	given.Data = roomy(p.Data...)
	memory := slices.Clone(given.Data[:cap(given.Data)])
	got, ok, e := b.h.Handle(given)
	if !slices.Equal(given.Data[:cap(given.Data)], memory) {
		t.Fatalf("Handle(%+v) wrote into its Data", p)
	}
	spoil(given.Data)
	want, answered := api.Packet{}, false
	wantedError := b.wanted(p)
	if wantedError == api.OK {
		want, answered = b.do(p)
	}
	if e != wantedError || ok != answered || !packet.Same(got, want) {
		t.Fatalf("%+v, node %d: Handle(%+v) %+v, %v, %d; want %+v, %v, %d", b.c, b.node, p, got, ok, e, want, answered, wantedError)
	}
	spoil(got.Data)
	b.must(t)
	return e
}

func (b *pair) grant(t *testing.T) bool {
	t.Helper()
	at := b.ready()
	want := api.Packet{}
	if at != -1 {
		l := b.lines[at]
		l.owner = l.wait[0].who
		want = b.granted(at, l.wait[0].who, l.wait[0].id)
		l.wait = l.wait[1:]
	}
	got, ok := b.h.Grant()
	if ok != (at != -1) || !packet.Same(got, want) {
		t.Fatalf("%+v, node %d: Grant %+v, %v; want %+v, %v", b.c, b.node, got, ok, want, at != -1)
	}
	spoil(got.Data)
	b.must(t)
	return ok
}

func (b *pair) lock(from, id, line int) api.Packet {
	return api.Packet{Kind: api.Lock, From: from, To: b.node, ID: id, Line: line}
}

// gone is an Unlock after which the line is its owner's alone.
func (b *pair) gone(from, id, line int) api.Packet {
	return api.Packet{Kind: api.Unlock, From: from, To: b.node, ID: id, Line: line, State: api.Gone, Ptr: from}
}

// drain lets all that have a line unlock it, and all that wait be granted, till there is nobody.
func (b *pair) drain(t *testing.T) {
	t.Helper()
	for more := true; more; {
		more = false
		for _, at := range b.here() {
			if who := b.lines[at].owner; who != -1 {
				b.handle(t, b.gone(who, 7, at))
				more = true
			}
		}
		for b.grant(t) {
			more = true
		}
	}
	for _, at := range b.here() {
		if b.h.Owner(at) != -1 || b.h.Waiting(at) != 0 {
			t.Fatal(at, b.h.Owner(at), b.h.Waiting(at))
		}
	}
}

// P11.1: what a new one knows: of its lines Home, None, their words, no owner, nobody who waits; nothing is pending, nothing to grant.
func TestNew(t *testing.T) {
	each(func(c api.Config, node int) {
		b := newPair(c, node)
		b.must(t)
		for _, at := range odd {
			b.mustLine(t, at)
		}
		if b.h.Pending() || b.grant(t) {
			t.Fatal(c, node)
		}
	})
}

// P11.1, the example: a Lock of a new one: Granted, Home; of each line of each home, by each node, with ids at the edges.
func TestLockOfANewOne(t *testing.T) {
	each(func(c api.Config, node int) {
		for from := range c.Nodes {
			for _, id := range []int{0, 1, 255, 256, 4095} {
				b := newPair(c, node)
				for _, at := range b.here() {
					words := slices.Clone(b.lines[at].data)
					got, ok, e := b.h.Handle(b.lock(from, id, at))
					want := api.Packet{Kind: api.Granted, From: node, To: from, ID: id, Line: at, State: api.Home, Ptr: api.None, Data: words}
					if !ok || e != api.OK || !packet.Same(got, want) || b.h.Owner(at) != from || b.h.Waiting(at) != 0 || b.h.Pending() {
						t.Fatal(c, node, got, ok, e, want)
					}
				}
			}
		}
	})
}

// P11.1: one line from its first owner on, by hand.
func TestByHand(t *testing.T) {
	h := home.New(some(), 1)
	handle := func(p, want api.Packet, answered bool, wanted api.Errno) {
		t.Helper()
		if got, ok, e := h.Handle(p); !packet.Same(got, want) || ok != answered || e != wanted {
			t.Fatal(got, ok, e)
		}
	}
	grant := func(want api.Packet) {
		t.Helper()
		if got, ok := h.Grant(); !ok || !packet.Same(got, want) {
			t.Fatal(got, ok)
		}
	}
	must := func(state, head, owner, waiting int, pending bool, words ...int) {
		t.Helper()
		row, ok := h.Row(1)
		if !ok || row.State != state || row.Head != head || !slices.Equal(row.Data, words) {
			t.Fatal(row, ok)
		}
		if h.Owner(1) != owner || h.Waiting(1) != waiting || h.Pending() != pending {
			t.Fatal(h.Owner(1), h.Waiting(1), h.Pending())
		}
	}
	must(0, -1, -1, 0, false, 13, 14, math.MinInt)
	handle(api.Packet{Kind: 1, From: 2, To: 1, ID: 40, Line: 1}, api.Packet{Kind: 7, From: 1, To: 2, ID: 40, Line: 1, Ptr: -1, Data: []int{13, 14, math.MinInt}}, true, 0)
	must(0, -1, 2, 0, false, 13, 14, math.MinInt)
	handle(api.Packet{Kind: 1, From: 0, To: 1, ID: 50, Line: 1}, api.Packet{}, false, 0)
	handle(api.Packet{Kind: 1, From: 1, To: 1, ID: 60, Line: 1}, api.Packet{}, false, 0)
	must(0, -1, 2, 2, false, 13, 14, math.MinInt)
	handle(api.Packet{Kind: 2, From: 0, To: 1, ID: 50, Line: 1, State: 2}, api.Packet{}, false, 6)
	handle(api.Packet{Kind: 2, From: 2, To: 1, ID: 40, Line: 1, State: 2, Ptr: -1}, api.Packet{}, false, 1)
	must(0, -1, 2, 2, false, 13, 14, math.MinInt)
	handle(api.Packet{Kind: 2, From: 2, To: 1, ID: 41, Line: 1, State: 2, Ptr: 2, Data: []int{1, 2, 3}}, api.Packet{Kind: 8, From: 1, To: 2, ID: 41, Line: 1}, true, 0)
	must(2, 2, -1, 2, true, 13, 14, math.MinInt)
	handle(api.Packet{Kind: 1, From: 2, To: 1, ID: 42, Line: 1}, api.Packet{}, false, 0)
	must(2, 2, -1, 3, true, 13, 14, math.MinInt)
	grant(api.Packet{Kind: 7, From: 1, To: 0, ID: 50, Line: 1, State: 2, Ptr: 2, Data: []int{13, 14, math.MinInt}})
	must(2, 2, 0, 2, false, 13, 14, math.MinInt)
	handle(api.Packet{Kind: 2, From: 0, To: 1, ID: 51, Line: 1, State: 1, Ptr: 0, Flag: true, Data: []int{1, 2, 3}}, api.Packet{Kind: 8, From: 1, To: 0, ID: 51, Line: 1}, true, 0)
	must(1, 0, -1, 2, true, 1, 2, 3)
	grant(api.Packet{Kind: 7, From: 1, To: 1, ID: 60, Line: 1, State: 1, Ptr: 0, Data: []int{1, 2, 3}})
	handle(api.Packet{Kind: 2, From: 1, To: 1, ID: 61, Line: 1, State: 0, Ptr: -1, Flag: true}, api.Packet{Kind: 8, From: 1, To: 1, ID: 61, Line: 1}, true, 0)
	must(0, -1, -1, 1, true, 1, 2, 3)
	grant(api.Packet{Kind: 7, From: 1, To: 2, ID: 42, Line: 1, Ptr: -1, Data: []int{1, 2, 3}})
	must(0, -1, 2, 0, false, 1, 2, 3)
	if got, ok := h.Grant(); ok || !packet.Same(got, api.Packet{}) {
		t.Fatal(got, ok)
	}
}

// stands are cases of line 1 at node 1: new, owned by node 2, owned while 0 and 1 wait, with no owner while they wait, with nobody again.
func stands(t *testing.T) []*pair {
	t.Helper()
	list := []*pair{}
	for stage := range 5 {
		b := newPair(some(), 1)
		if stage > 0 {
			b.handle(t, b.lock(2, 10, 1))
		}
		if stage > 1 {
			b.handle(t, b.lock(0, 20, 1))
			b.handle(t, b.lock(1, 30, 1))
		}
		if stage > 2 {
			p := b.gone(2, 40, 1)
			p.Flag, p.Data = true, []int{71, 72, 73}
			b.handle(t, p)
		}
		if stage > 3 {
			b.drain(t)
		}
		list = append(list, b)
	}
	return list
}

// P11.1: what a Lock has in fields that it doesn't need does not count: the answer is of the row.
func TestLockOfTheRow(t *testing.T) {
	for stage, b := range stands(t) {
		p := b.lock(0, 5, 1)
		p.State, p.Ptr, p.Flag, p.Data = api.Fresh, 5, true, []int{1, 2, 3, 4}
		if b.handle(t, p) != api.OK {
			t.Fatal(stage)
		}
		b.drain(t)
		if row, _ := b.h.Row(1); slices.Contains(row.Data, 1) {
			t.Fatal(stage, row)
		}
	}
}

// P11.1: a Lock of a line in each state, with each head, with its words set and as they were: Granted tells just these.
func TestLockInEachState(t *testing.T) {
	c := some()
	c.Nodes, c.Lines = 6, 8
	for from := range c.Nodes {
		for state := api.Home; state <= api.Gone; state++ {
			for head := api.None; head < c.Nodes; head++ {
				for _, words := range [][]int{nil, {5, -6, math.MaxInt}} {
					b := newPair(c, 1)
					b.handle(t, b.lock(3, 9, 7))
					p := api.Packet{Kind: api.Unlock, From: 3, To: 1, ID: 9, Line: 7, State: state, Ptr: head, Flag: words != nil, Data: words}
					if b.handle(t, p) == api.OK {
						b.handle(t, b.lock(from, 8, 7))
					}
					b.drain(t)
				}
			}
		}
	}
}

// P11.1, R2: each thing that packet.Check says, with a Lock and with an Unlock, however the line stands: ErrArg, and nothing is another one then.
func TestNoPacket(t *testing.T) {
	fields := []func(p *api.Packet) *int{
		func(p *api.Packet) *int { return &p.Kind },
		func(p *api.Packet) *int { return &p.From },
		func(p *api.Packet) *int { return &p.To },
		func(p *api.Packet) *int { return &p.ID },
		func(p *api.Packet) *int { return &p.Line },
		func(p *api.Packet) *int { return &p.Ptr },
		func(p *api.Packet) *int { return &p.State },
	}
	for stage, b := range stands(t) {
		for _, right := range []api.Packet{b.lock(0, 3, 1), b.gone(2, 4, 1), b.gone(0, 4, 1)} {
			for field, of := range fields {
				refused := 0
				for _, n := range odd {
					p := right
					*of(&p) = n
					if isPacket(p) {
						continue
					}
					refused++
					if b.handle(t, p) != api.ErrArg {
						t.Fatal(stage, p)
					}
				}
				if refused < 10 {
					t.Fatal(stage, field, refused)
				}
			}
			for words := api.MaxWords + 1; words < 12; words++ {
				p := right
				p.Data = counting(words, 1)
				for range 2 {
					if b.handle(t, p) != api.ErrArg {
						t.Fatal(stage, p)
					}
					p.Flag = !p.Flag
				}
			}
		}
		b.drain(t)
	}
}

// P11.1: a packet to another node: ErrArg, at each home, though the line's home may be that other one.
func TestToAnotherNode(t *testing.T) {
	for node := range 6 {
		c := some()
		c.Nodes, c.Lines = 6, 8
		b := newPair(c, node)
		for to := range api.MaxNodes {
			if to == node {
				continue
			}
			for at := range api.MaxLines {
				for _, p := range []api.Packet{b.lock(0, 1, at), b.gone(0, 1, at)} {
					p.To = to
					if b.handle(t, p) != api.ErrArg {
						t.Fatal(p)
					}
				}
			}
		}
	}
}

// P11.1: From is no node of the configuration, though it could be one of another: ErrArg; the last node may ask.
func TestFromNoNode(t *testing.T) {
	for nodes := 1; nodes <= api.MaxNodes; nodes++ {
		for node := range nodes {
			c := some()
			c.Nodes, c.Lines = nodes, 8
			b := newPair(c, node)
			for from := nodes; from < api.MaxNodes; from++ {
				for at := range api.MaxLines {
					if b.handle(t, b.lock(from, 1, at)) != api.ErrArg || b.handle(t, b.gone(from, 1, at)) != api.ErrArg {
						t.Fatal(nodes, node, from, at)
					}
				}
			}
			if b.handle(t, b.lock(nodes-1, 1, node)) != api.OK || b.h.Owner(node) != nodes-1 {
				t.Fatal(nodes, node)
			}
			b.drain(t)
		}
	}
}

// P11.1: a Kind that is neither Lock nor Unlock: ErrArg, of each other packet, however the line stands.
func TestOtherKinds(t *testing.T) {
	for stage, b := range stands(t) {
		for kind := api.Attach; kind <= api.Told; kind++ {
			for from := range 3 {
				for at := range api.MaxLines {
					p := b.gone(from, 1, at)
					if p.Kind = kind; b.handle(t, p) != api.ErrArg {
						t.Fatal(stage, p)
					}
				}
			}
		}
		b.drain(t)
	}
}

// P11.1: a line whose home is another node, and one that there is not: ErrNone, of a Lock and of an Unlock.
func TestNotHere(t *testing.T) {
	each(func(c api.Config, node int) {
		b := newPair(c, node)
		here := b.here()
		for at := range api.MaxLines {
			want := api.ErrNone
			if slices.Contains(here, at) {
				want = api.OK
			}
			if e := b.handle(t, b.lock(c.Nodes-1, 1, at)); e != want {
				t.Fatal(c, node, at, e)
			}
			if e := b.handle(t, b.gone(c.Nodes-1, 1, at)); e != want {
				t.Fatal(c, node, at, e)
			}
		}
	})
}

// P11.1, R2: what is met first in the order of its sentence: ErrArg of the packet, then ErrNone, then ErrState, then ErrArg of the row.
func TestWhichErrorFirst(t *testing.T) {
	for stage, b := range stands(t) {
		bad := b.gone(0, 4, 2) // not here, not its owner, and no row
		bad.Ptr = api.None
		for i, r := range []struct {
			turn func(p *api.Packet)
			want api.Errno
		}{
			{func(p *api.Packet) {}, api.ErrNone},
			{func(p *api.Packet) { p.Line = 7 }, api.ErrNone},
			{func(p *api.Packet) { p.Kind = api.Lock }, api.ErrNone},
			{func(p *api.Packet) { p.Kind = api.Attach }, api.ErrArg},
			{func(p *api.Packet) { p.From = 3 }, api.ErrArg},
			{func(p *api.Packet) { p.To = 2 }, api.ErrArg},
			{func(p *api.Packet) { p.State = 3 }, api.ErrArg},
			{func(p *api.Packet) { p.Line = 8 }, api.ErrArg},
			{func(p *api.Packet) { p.Line = 4 }, api.ErrState},
			{func(p *api.Packet) { p.Line = 1 }, api.ErrState},
			{func(p *api.Packet) { p.Line, p.Flag, p.Data = 1, true, []int{1} }, api.ErrState},
		} {
			p := bad
			r.turn(&p)
			if e := b.handle(t, p); e != r.want {
				t.Fatal(stage, i, e, r.want)
			}
		}
		b.drain(t)
	}
}

// P11.1: a Lock of a line that somebody has, be it who asks: no answer yet; it waits.
func TestLockOfAnOwned(t *testing.T) {
	for owner := range 3 {
		for from := range 3 {
			b := newPair(some(), 1)
			b.handle(t, b.lock(owner, 1, 4))
			for n := range 5 {
				got, ok, e := b.h.Handle(b.lock(from, 2+n, 4))
				if ok || e != api.OK || !packet.Same(got, api.Packet{}) || b.h.Waiting(4) != n+1 || b.h.Owner(4) != owner || b.h.Pending() {
					t.Fatal(owner, from, n, got, ok, e)
				}
			}
			if b.h.Waiting(1) != 0 || b.h.Owner(1) != api.None {
				t.Fatal(owner, from)
			}
		}
	}
}

// P11.1: a Lock of a line that nobody has, while somebody waits: no answer yet, behind those.
func TestLockWhileSomebodyWaits(t *testing.T) {
	for from := range 3 {
		b := stands(t)[3]
		if b.handle(t, b.lock(from, 90, 1)) != api.OK || b.h.Owner(1) != api.None || b.h.Waiting(1) != 3 {
			t.Fatal(from)
		}
		for _, want := range []ask{{0, 20}, {1, 30}, {from, 90}} {
			got, ok := b.h.Grant()
			if !ok || got.To != want.who || got.ID != want.id || !slices.Equal(got.Data, []int{71, 72, 73}) {
				t.Fatal(got, ok, want)
			}
			p := b.gone(want.who, 0, 1)
			if _, ok, e := b.h.Handle(p); !ok || e != api.OK {
				t.Fatal(ok, e)
			}
		}
	}
}

// P11.1: Unlock by another one than the owner, and of a line that nobody has: ErrState, and the line is not released.
func TestUnlockByAnother(t *testing.T) {
	for stage, b := range stands(t) {
		owner := b.h.Owner(1)
		for from := range 3 {
			for _, at := range []int{1, 4} {
				if at == 1 && from == owner {
					continue
				}
				for range 2 {
					if b.handle(t, b.gone(from, 10, at)) != api.ErrState {
						t.Fatal(stage, from, at)
					}
				}
			}
		}
		if b.h.Owner(1) != owner {
			t.Fatal(stage)
		}
		b.drain(t)
	}
}

// P11.1: Unlock a second time: ErrState.
func TestUnlockTwice(t *testing.T) {
	each(func(c api.Config, node int) {
		b := newPair(c, node)
		for _, at := range b.here() {
			b.handle(t, b.lock(0, 1, at))
			p := b.gone(0, 2, at)
			if b.handle(t, p) != api.OK || b.handle(t, p) != api.ErrState {
				t.Fatal(c, node, at)
			}
		}
	})
}

// P11.1: Unlock with each State, Ptr, with so many Data, with Flag and without it: the row is that and the line released, or ErrArg and it is not.
func TestUnlockOfEachRow(t *testing.T) {
	taken, refused := 0, 0
	for nodes := 1; nodes <= api.MaxNodes; nodes++ {
		for words := 1; words <= api.MaxWords; words++ {
			c := api.Config{Nodes: nodes, Lines: 8, Words: words, Sets: 1, Ways: 1, Out: 1, In: 1, Init: counting(8*words, 100)}
			b := newPair(c, nodes/2)
			for state := api.Home; state <= api.Gone; state++ {
				for ptr := api.None; ptr < api.MaxNodes; ptr++ {
					for count := 0; count <= api.MaxWords; count++ {
						for _, flag := range []bool{false, true} {
							at := b.here()[taken%len(b.here())]
							b.handle(t, b.lock(nodes-1, 5, at))
							p := api.Packet{Kind: api.Unlock, From: nodes - 1, To: nodes / 2, ID: 6, Line: at, State: state, Ptr: ptr, Flag: flag, Data: counting(count, taken)}
							if e := b.handle(t, p); e == api.OK {
								taken++
							} else {
								refused++
								if e != api.ErrArg || b.h.Owner(at) != nodes-1 {
									t.Fatal(p, e)
								}
								b.drain(t)
							}
						}
					}
				}
			}
		}
	}
	if taken < 500 || refused < 500 {
		t.Fatal(taken, refused)
	}
}

// P11.1: Data without Flag are not set, be they too many; with Flag and no Data the words stay.
func TestUnlockData(t *testing.T) {
	for _, r := range []struct {
		flag bool
		data []int
		e    api.Errno
		want []int
	}{
		{true, []int{1, 2, 3}, api.OK, []int{1, 2, 3}},
		{true, []int{0, 0, 0}, api.OK, []int{0, 0, 0}},
		{false, []int{1, 2, 3}, api.OK, []int{13, 14, math.MinInt}},
		{false, []int{1, 2, 3, 4}, api.OK, []int{13, 14, math.MinInt}},
		{false, []int{1}, api.OK, []int{13, 14, math.MinInt}},
		{false, nil, api.OK, []int{13, 14, math.MinInt}},
		{true, nil, api.OK, []int{13, 14, math.MinInt}},
		{true, []int{}, api.OK, []int{13, 14, math.MinInt}},
		{true, []int{1, 2}, api.ErrArg, []int{13, 14, math.MinInt}},
		{true, []int{1, 2, 3, 4}, api.ErrArg, []int{13, 14, math.MinInt}},
	} {
		b := newPair(some(), 1)
		b.handle(t, b.lock(2, 1, 1))
		p := b.gone(2, 1, 1)
		p.Flag, p.Data = r.flag, r.data
		e := b.handle(t, p)
		row, ok := b.h.Row(1)
		if e != r.e || !ok || !slices.Equal(row.Data, r.want) || (b.h.Owner(1) == 2) != (e != api.OK) {
			t.Fatal(r, e, row)
		}
	}
}

// P11.1: Done has the ID that the Unlock was asked with, not that of the Lock.
func TestDoneByItsOwnID(t *testing.T) {
	for _, id := range []int{0, 1, 255, 256, 4095} {
		b := newPair(some(), 1)
		b.handle(t, b.lock(2, 77, 4))
		got, ok, e := b.h.Handle(b.gone(2, id, 4))
		if want := (api.Packet{Kind: api.Done, From: 1, To: 2, ID: id, Line: 4}); !ok || e != api.OK || !packet.Same(got, want) {
			t.Fatal(got, ok, e)
		}
	}
}

// P11.1: Pending with nobody who waits, with some who wait for a line that another one has, and for one that nobody has.
func TestPending(t *testing.T) {
	for stage, b := range stands(t) {
		if got := b.h.Pending(); got != (stage == 3) {
			t.Fatal(stage, got)
		}
		if got := b.grant(t); got != (stage == 3) {
			t.Fatal(stage, got)
		}
		if b.h.Pending() {
			t.Fatal(stage)
		}
		b.drain(t)
	}
}

// ways calls f with each list of that many numbers below n.
func ways(many, n int, f func(list []int)) {
	list := make([]int, many)
	for {
		f(list)
		at := many - 1
		for at >= 0 && list[at] == n-1 {
			list[at] = 0
			at--
		}
		if at < 0 {
			return
		}
		list[at]++
	}
}

// P11.1: Grant of the first of the ready lines, in whatever order they were asked for and let go, each with its row as it was left.
func TestGrantTheFirst(t *testing.T) {
	c := api.Config{Nodes: 2, Lines: 8, Words: 2, Sets: 1, Ways: 1, Out: 1, In: 1, Init: counting(16, 100)}
	ways(4, 4, func(order []int) {
		b := newPair(c, 1)
		for n, at := range order {
			b.handle(t, b.lock(n%2, n, 2*at+1))
			b.handle(t, b.lock(1-n%2, 10+n, 2*at+1))
		}
		for n := range order {
			at := 2*order[len(order)-1-n] + 1
			if who := b.h.Owner(at); who != api.None {
				p := b.gone(who, 50+n, at)
				p.Flag, p.Data = true, []int{at, n}
				b.handle(t, p)
			}
		}
		told := []int{}
		for b.h.Pending() {
			told = append(told, b.ready())
			if !b.grant(t) {
				t.Fatal(order)
			}
		}
		if !slices.IsSorted(told) || len(told) == 0 {
			t.Fatal(order, told)
		}
		b.drain(t)
	})
}

// P11.1: several nodes that ask for one line are granted it in the order in which they asked, each by its ID.
func TestGrantInOrder(t *testing.T) {
	c := some()
	c.Nodes, c.Lines = 6, 8
	ways(5, 6, func(order []int) {
		b := newPair(c, 2)
		b.handle(t, b.lock(0, 0, 2))
		for n, who := range order {
			b.handle(t, b.lock(who, 100+n, 2))
		}
		owner := 0
		for n, who := range order {
			if b.handle(t, b.gone(owner, n, 2)) != api.OK {
				t.Fatal(order, n)
			}
			got, ok := b.h.Grant()
			if want := (api.Packet{Kind: api.Granted, From: 2, To: who, ID: 100 + n, Line: 2, State: api.Gone, Ptr: owner, Data: []int{math.MaxInt, 0, 0}}); !ok || !packet.Same(got, want) {
				t.Fatal(order, n, got, want)
			}
			l := b.lines[2]
			l.owner, l.wait, owner = who, l.wait[1:], who
			b.must(t)
		}
	})
}

// P11.1: each way of four calls of three nodes and two lines, and of seven calls of two nodes and one line.
func TestEachWay(t *testing.T) {
	try := func(many, nodes int, lines ...int) {
		calls := []func(b *pair){func(b *pair) { b.grant(t) }}
		for from := range nodes {
			for _, at := range lines {
				calls = append(calls,
					func(b *pair) { b.handle(t, b.lock(from, 10*from+at, at)) },
					func(b *pair) { b.handle(t, b.gone(from, 100+10*from+at, at)) })
			}
		}
		ways(many, len(calls), func(list []int) {
			b := newPair(some(), 1)
			for _, n := range list {
				calls[n](b)
			}
			b.drain(t)
		})
	}
	try(4, 3, 1, 4)
	try(7, 2, 4)
}

// dice is a row of numbers that is the same each time.
type dice uint64

func (d *dice) below(n int) int {
	*d = *d*6364136223846793005 + 1442695040888963407
	return int(uint64(*d) >> 33 % uint64(n))
}

// any is a packet of which most fields are such that it may be taken.
func (b *pair) any(d *dice) api.Packet {
	p := api.Packet{Kind: 1 + d.below(2), From: d.below(b.c.Nodes), To: b.node, ID: d.below(4096), Line: d.below(8), State: d.below(3), Ptr: d.below(b.c.Nodes)}
	if d.below(3) > 0 {
		p.Line = b.node
	}
	if l := b.at(p.Line); l != nil && l.owner != -1 && d.below(4) > 0 {
		p.From = l.owner
	}
	if p.State == api.Home {
		p.Ptr = api.None
	}
	if d.below(2) > 0 {
		p.Flag, p.Data = true, counting(b.c.Words, d.below(1000))
	}
	switch d.below(40) {
	case 0:
		p.Kind = odd[d.below(len(odd))]
	case 1:
		p.From = odd[d.below(len(odd))]
	case 2:
		p.To = odd[d.below(len(odd))]
	case 3:
		p.ID = odd[d.below(len(odd))]
	case 4:
		p.Line = odd[d.below(len(odd))]
	case 5:
		p.State = odd[d.below(len(odd))]
	case 6:
		p.Ptr = odd[d.below(len(odd))]
	case 7:
		p.Data = counting(d.below(6), 5)
	}
	return p
}

// P11.1: long ways of requests, right and wrong ones, and grants between them, of each configuration.
func TestLongWays(t *testing.T) {
	d := dice(11)
	each(func(c api.Config, node int) {
		b := newPair(c, node)
		for range 60 {
			if d.below(4) == 0 {
				b.grant(t)
			} else {
				b.handle(t, b.any(&d))
			}
		}
		b.drain(t)
	})
}

// P11.1: one longer way, of several nodes that all ask for several lines.
func TestOneLongWay(t *testing.T) {
	d := dice(5)
	c := api.Config{Nodes: 2, Lines: 8, Words: 4, Sets: 4, Ways: 3, Out: 8, In: 8, Init: counting(32, -16)}
	b := newPair(c, 1)
	kinds := [2][7]int{}
	for range 30000 {
		if d.below(3) == 0 {
			b.grant(t)
			continue
		}
		p := b.any(&d)
		e := b.handle(t, p)
		if within(1, p.Kind, 2) {
			kinds[p.Kind-1][e]++
		}
		if b.h.Waiting(1) > 20 {
			b.drain(t)
		}
	}
	if kinds[0][api.OK] == 0 || kinds[0][api.ErrArg] == 0 || kinds[0][api.ErrNone] == 0 ||
		kinds[1][api.OK] == 0 || kinds[1][api.ErrArg] == 0 || kinds[1][api.ErrNone] == 0 || kinds[1][api.ErrState] == 0 {
		t.Fatal(kinds)
	}
}

// R4: what a request's Data are written into once it is handled: nothing is another one for it, nor by what lies behind their length.
func TestRequestMemory(t *testing.T) {
	h := home.New(some(), 1)
	h.Handle(api.Packet{Kind: api.Lock, From: 0, To: 1, Line: 1})
	data := roomy(1, 2, 3)
	p := api.Packet{Kind: api.Unlock, From: 0, To: 1, Line: 1, State: api.Gone, Flag: true, Data: data}
	if _, ok, e := h.Handle(p); !ok || e != api.OK || !slices.Equal(data[:cap(data)], []int{1, 2, 3, 501, 502, 503, 504, 505}[:cap(data)]) {
		t.Fatal(ok, e, data[:cap(data)])
	}
	spoil(data)
	if row, _ := h.Row(1); !slices.Equal(row.Data, []int{1, 2, 3}) {
		t.Fatal(row)
	}
	if got, _, _ := h.Handle(api.Packet{Kind: api.Lock, From: 0, To: 1, Line: 1}); !slices.Equal(got.Data, []int{1, 2, 3}) {
		t.Fatal(got)
	}
}

// R4: the configuration's Init is written into once the home is made: its lines are as they were; the home writes nothing into it.
func TestInitMemory(t *testing.T) {
	c := some()
	c.Init = roomy(c.Init...)
	b := newPair(c, 1)
	before := slices.Clone(c.Init[:cap(c.Init)])
	for _, at := range b.here() {
		b.handle(t, b.lock(0, 1, at))
		p := b.gone(0, 1, at)
		p.Flag, p.Data = true, []int{-1, -2, -3}
		b.handle(t, p)
	}
	if !slices.Equal(before, c.Init[:cap(c.Init)]) {
		t.Fatal(c.Init[:cap(c.Init)])
	}
	other := newPair(c, 1)
	spoil(c.Init)
	other.must(t)
	other.drain(t)
}

// R4: what an answer's Data and a Row have told is new memory: written into, nothing is another one for it, and no later call writes into it.
func TestToldMemory(t *testing.T) {
	h := home.New(some(), 1)
	words := []int{13, 14, math.MinInt}
	first, _, _ := h.Handle(api.Packet{Kind: api.Lock, From: 0, To: 1, Line: 1})
	row, _ := h.Row(1)
	h.Handle(api.Packet{Kind: api.Lock, From: 2, To: 1, Line: 1})
	h.Handle(api.Packet{Kind: api.Unlock, From: 0, To: 1, Line: 1, State: api.Gone})
	second, _ := h.Grant()
	for i, list := range [][]int{first.Data, row.Data, second.Data} {
		if !slices.Equal(list, words) {
			t.Fatal(i, list)
		}
	}
	spoil(first.Data)
	if again, _ := h.Row(1); !slices.Equal(again.Data, words) || !slices.Equal(row.Data, words) || !slices.Equal(second.Data, words) {
		t.Fatal(again, row, second)
	}
	spoil(row.Data)
	if again, _ := h.Row(1); !slices.Equal(again.Data, words) || !slices.Equal(second.Data, words) {
		t.Fatal(again, second)
	}
	spoil(second.Data)
	if again, _ := h.Row(1); !slices.Equal(again.Data, words) {
		t.Fatal(again)
	}
	kept, _ := h.Row(1)
	h.Handle(api.Packet{Kind: api.Unlock, From: 2, To: 1, Line: 1, State: api.Gone, Flag: true, Data: []int{1, 2, 3}})
	if !slices.Equal(kept.Data, words) {
		t.Fatal(kept)
	}
}

// R5: two homes know nothing of each other, be they of one node.
func TestTwoAreApart(t *testing.T) {
	one, other, third := newPair(some(), 1), newPair(some(), 1), newPair(some(), 0)
	d := dice(3)
	for range 200 {
		for _, b := range []*pair{one, other, third} {
			if d.below(3) == 0 {
				b.grant(t)
			} else {
				b.handle(t, b.any(&d))
			}
			one.must(t)
			other.must(t)
			third.must(t)
		}
	}
	one.drain(t)
	other.must(t)
	third.must(t)
}

// R5: the same calls answer the same, each time.
func TestSameCallsSameAnswers(t *testing.T) {
	tell := func() []api.Packet {
		b := newPair(api.Config{Nodes: 1, Lines: 8, Words: 1, Sets: 1, Ways: 1, Out: 1, In: 1}, 0)
		list := []api.Packet{}
		for _, at := range []int{5, 2, 7, 0, 3, 6, 1, 4} {
			b.h.Handle(b.lock(0, at, at))
			b.h.Handle(b.lock(0, 10+at, at))
			b.h.Handle(b.gone(0, 20+at, at))
		}
		for b.h.Pending() {
			p, _ := b.h.Grant()
			list = append(list, p)
		}
		return list
	}
	first := tell()
	if len(first) != 8 {
		t.Fatal(first)
	}
	for range 50 {
		if !slices.EqualFunc(first, tell(), packet.Same) {
			t.Fatal("other answers")
		}
	}
}

// R1, R8: a node that is none of the configuration is no line's home, and no packet is to it.
func TestNoNode(t *testing.T) {
	for _, node := range odd {
		if within(0, node, 2) {
			continue
		}
		b := newPair(some(), node)
		for at := range api.MaxLines {
			for _, p := range []api.Packet{b.lock(0, 1, at), b.gone(0, 1, at)} {
				want := api.ErrArg
				if node == 3 || node == 4 || node == 5 {
					want = api.ErrNone
				}
				if e := b.handle(t, p); e != want {
					t.Fatal(node, p, e)
				}
			}
		}
		if b.h.Pending() || b.grant(t) {
			t.Fatal(node)
		}
	}
}

// R1: of what is no configuration a home is made all the same, of no lines; no call of it panics, and each ends.
func TestNoConfiguration(t *testing.T) {
	turns := []func(c *api.Config){
		func(c *api.Config) { *c = api.Config{} },
		func(c *api.Config) { c.Nodes = 0 },
		func(c *api.Config) { c.Nodes = -1 },
		func(c *api.Config) { c.Nodes = api.MaxNodes + 1 },
		func(c *api.Config) { c.Lines = 0 },
		func(c *api.Config) { c.Lines = math.MaxInt },
		func(c *api.Config) { c.Lines = math.MinInt },
		func(c *api.Config) { c.Words = -1 },
		func(c *api.Config) { c.Words = math.MaxInt },
		func(c *api.Config) { c.Sets = 0 },
		func(c *api.Config) { c.In = api.MaxRoom + 1 },
		func(c *api.Config) { c.Init = counting(16, 0) },
	}
	for i, turn := range turns {
		c := some()
		turn(&c)
		for _, node := range odd {
			h := home.New(c, node)
			for _, at := range odd {
				for _, p := range []api.Packet{{Kind: api.Lock, To: node, Line: at}, {Kind: api.Unlock, To: node, Line: at, State: api.Gone}} {
					if got, ok, e := h.Handle(p); ok || e == api.OK || !packet.Same(got, api.Packet{}) {
						t.Fatal(i, node, got, ok, e)
					}
				}
				if row, ok := h.Row(at); ok || row.State != 0 || row.Head != 0 || len(row.Data) != 0 || h.Owner(at) != api.None || h.Waiting(at) != 0 {
					t.Fatal(i, node, at, row, ok)
				}
			}
			if _, ok := h.Grant(); ok || h.Pending() {
				t.Fatal(i, node)
			}
		}
	}
}

// Ways: the directory and the turns are embedded: what they tell is promoted, and is just what they tell.
func TestPromoted(t *testing.T) {
	h := home.New(some(), 1)
	h.Handle(api.Packet{Kind: api.Lock, From: 2, To: 1, Line: 4})
	h.Handle(api.Packet{Kind: api.Lock, From: 0, To: 1, Line: 4})
	var dir *memdir.Dir = h.Dir
	row, _ := h.Row(4)
	if under, ok := dir.Row(4); !ok || under.Head != row.Head || !slices.Equal(under.Data, row.Data) {
		t.Fatal(under, row)
	}
	if h.Turns.Owner(4) != 2 || h.Owner(4) != 2 || h.Turns.Waiting(4) != 1 || h.Waiting(4) != 1 {
		t.Fatal(h.Owner(4), h.Waiting(4))
	}
}
