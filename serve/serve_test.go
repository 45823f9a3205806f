package serve_test

import (
	"math"
	"slices"
	"testing"

	"chaplet/api"
	"chaplet/cache"
	"chaplet/entry"
	"chaplet/packet"
	"chaplet/serve"
)

// odd are numbers at the edges: of kinds, of nodes, of lines, of ids, of what fewer digits can tell.
var odd = []int{-1, 0, 1, 2, 3, 4, 5, 6, 7, 8, 9, 10, -2, -3, -6, 255, 256, 4095, 4096, 1<<16 - 1, 1 << 16, 1 << 32, 1<<32 + 1, -1 << 32, 1 << 62, math.MinInt, math.MinInt + 1, math.MaxInt - 1, math.MaxInt}

func counting(n, from int) []int {
	list := make([]int, n)
	for i := range list {
		list[i] = from + i
	}
	return list
}

// spoil writes into all of the numbers' memory, what lies behind their length too.
func spoil(numbers []int) {
	whole := numbers[:cap(numbers)]
	for i := range whole {
		whole[i] = -777 - i
	}
}

// roomy is a list of these words, with others behind its length in its memory.
func roomy(words ...int) []int {
	return append(slices.Clone(words), 501, 502, 503, 504, 505)[:len(words)]
}

// copied is what a cache has to know of one of its lines, by plain means.
type copied struct {
	line, fwd, back, used int
	dirty                 bool
	data                  []int
}

// places are where an entry may stand in its line's list: Fwd and Back of one
// alone, of a head, of one in the middle, of a tail.
var places = [4][2]int{{-1, -1}, {2, -1}, {0, 5}, {-1, 3}}

// pair is a cache beside what it is held against: its entries in the order in which they came.
type pair struct {
	c    *cache.Cache
	list []copied
}

// newPair is of a cache in which these lines are, each at another place in its
// list, clean or dirty, with other words.
func newPair(t *testing.T, sets, ways int, lines ...int) *pair {
	t.Helper()
	b := &pair{c: cache.New(sets, ways)}
	for n, line := range lines {
		place := places[(line+n)%len(places)]
		b.put(t, copied{line: line, fwd: place[0], back: place[1], dirty: (line/2+n)%2 == 0, data: counting(1+(line+n)%4, 100*line+10*n)})
	}
	return b
}

func (b *pair) put(t *testing.T, x copied) {
	t.Helper()
	x.used = len(b.list) + 1
	b.list = append(b.list, x)
	if e := b.c.Put(entry.New(x.line, x.fwd, x.back, x.dirty, x.data...)); e != api.OK {
		t.Fatal(x, e)
	}
}

func (b *pair) at(line int) int {
	return slices.IndexFunc(b.list, func(x copied) bool { return x.line == line })
}

// must asks all that a cache tells.
func (b *pair) must(t *testing.T) {
	t.Helper()
	lines := []int{}
	for _, x := range b.list {
		lines = append(lines, x.line)
		got, ok := b.c.Find(x.line)
		if !ok || got.Line != x.line || got.Fwd != x.fwd || got.Back != x.back || got.Used != x.used || got.Dirty != x.dirty || !slices.Equal(got.Data, x.data) {
			t.Fatalf("Find(%d) %+v, %v; want %+v", x.line, got, ok, x)
		}
	}
	slices.Sort(lines)
	if !slices.Equal(b.c.Lines(), lines) || b.c.Len() != len(lines) {
		t.Fatalf("Lines %v, Len %d; want %v", b.c.Lines(), b.c.Len(), lines)
	}
}

func within(least, n, most int) bool {
	return least <= n && n <= most
}

// isPacket is packet.Check, by the document's numbers.
func isPacket(p api.Packet) bool {
	return within(1, p.Kind, 9) && within(0, p.From, 5) && within(0, p.To, 5) && within(0, p.ID, 4095) &&
		within(0, p.Line, 7) && within(-1, p.Ptr, 5) && within(0, p.State, 2) && len(p.Data) <= 4
}

// wanted is the error that Handle has to answer, by the document's words in their order.
func (b *pair) wanted(p api.Packet) api.Errno {
	switch {
	case !isPacket(p), !within(3, p.Kind, 6):
		return 1 // ErrArg
	case b.at(p.Line) == -1:
		return 3 // ErrNone
	}
	return 0 // OK
}

// do does what is asked for to what the cache is held against.
func (b *pair) do(p api.Packet) api.Packet {
	at := b.at(p.Line)
	x := &b.list[at]
	told := api.Packet{Kind: 9, From: p.To, To: p.From, ID: p.ID, Line: p.Line, Flag: x.dirty, Data: slices.Clone(x.data)}
	done := api.Packet{Kind: 8, From: p.To, To: p.From, ID: p.ID, Line: p.Line}
	switch p.Kind {
	case 3:
		x.back, x.dirty = p.Ptr, false
		return told
	case 4:
		x.fwd = p.Ptr
	case 5:
		x.back = p.Ptr
	case 6:
		told.Ptr = x.fwd
		b.list = slices.Delete(b.list, at, at+1)
		return told
	}
	return done
}

// handle hands the packet to both, and holds the answers against each other;
// the packet's Data, and the answer's, are written into as soon as they are there.
func (b *pair) handle(t *testing.T, p api.Packet) api.Errno {
	t.Helper()
	given := p
	given.Data = roomy(p.Data...)
	memory := slices.Clone(given.Data[:cap(given.Data)])
	got, e := serve.Handle(b.c, given)
	if !slices.Equal(given.Data[:cap(given.Data)], memory) {
		t.Fatalf("Handle(%+v) wrote into its Data", p)
	}
	spoil(given.Data)
	want, wantedError := api.Packet{}, b.wanted(p)
	if wantedError == api.OK {
		want = b.do(p)
	}
	if e != wantedError || !packet.Same(got, want) {
		t.Fatalf("Handle(%+v) %+v, %d; want %+v, %d", p, got, e, want, wantedError)
	}
	spoil(got.Data)
	b.must(t)
	return e
}

// each calls f with caches of all sets and ways that a configuration may have: empty, with one line, full.
func each(t *testing.T, f func(b *pair)) {
	for sets := 1; sets <= api.MaxSets; sets++ {
		for ways := 1; ways <= api.MaxWays; ways++ {
			f(newPair(t, sets, ways))
			for line := range api.MaxLines {
				f(newPair(t, sets, ways, line))
			}
			f(newPair(t, sets, ways, full(sets, ways, 0)...))
			f(newPair(t, sets, ways, full(sets, ways, 3)...))
		}
	}
}

// full are the lines that fill such a cache, as far as lines go, asked for from that line on.
func full(sets, ways, from int) []int {
	lines, room := []int{}, make([]int, sets)
	for n := range api.MaxLines {
		line := (from + n) % api.MaxLines
		if room[line%sets] < ways {
			room[line%sets]++
			lines = append(lines, line)
		}
	}
	return lines
}

func ask(kind, line, ptr int) api.Packet {
	return api.Packet{Kind: kind, From: 4, To: 1, ID: 9, Line: line, Ptr: ptr}
}

// P12.1, the example: a Purge of what is not there: ErrNone; so of all else that is asked of a cache, in each cache, of each line.
func TestNotThere(t *testing.T) {
	each(t, func(b *pair) {
		for line := range api.MaxLines {
			if b.at(line) != -1 {
				continue
			}
			for kind := api.Attach; kind <= api.Purge; kind++ {
				for ptr := api.None; ptr < api.MaxNodes; ptr++ {
					got, e := serve.Handle(b.c, ask(kind, line, ptr))
					if e != api.ErrNone || !packet.Same(got, api.Packet{}) {
						t.Fatal(kind, line, ptr, got, e)
					}
				}
			}
		}
		b.must(t)
	})
}

// P12.1: one entry, by hand: attached to, with others behind and ahead, purged.
func TestByHand(t *testing.T) {
	c := cache.New(2, 2)
	for _, x := range []entry.Entry{entry.New(3, 2, api.None, true, 7, math.MinInt), entry.New(5, api.None, 0, false, 1)} {
		if e := c.Put(x); e != api.OK {
			t.Fatal(e)
		}
	}
	handle := func(p, want api.Packet, wanted api.Errno) {
		t.Helper()
		if got, e := serve.Handle(c, p); e != wanted || !packet.Same(got, want) {
			t.Fatal(got, e)
		}
	}
	must := func(line, fwd, back, used int, dirty bool, data ...int) {
		t.Helper()
		x, ok := c.Find(line)
		if !ok || x.Line != line || x.Fwd != fwd || x.Back != back || x.Used != used || x.Dirty != dirty || !slices.Equal(x.Data, data) {
			t.Fatal(x, ok)
		}
	}
	handle(api.Packet{Kind: 3, From: 5, To: 1, ID: 4095, Line: 3, Ptr: 4}, api.Packet{Kind: 9, From: 1, To: 5, ID: 4095, Line: 3, Flag: true, Data: []int{7, math.MinInt}}, 0)
	must(3, 2, 4, 1, false, 7, math.MinInt)
	handle(api.Packet{Kind: 3, From: 5, To: 1, ID: 1, Line: 3, Ptr: 5}, api.Packet{Kind: 9, From: 1, To: 5, ID: 1, Line: 3, Data: []int{7, math.MinInt}}, 0)
	must(3, 2, 5, 1, false, 7, math.MinInt)
	handle(api.Packet{Kind: 4, From: 2, To: 1, ID: 2, Line: 3, Ptr: 0}, api.Packet{Kind: 8, From: 1, To: 2, ID: 2, Line: 3}, 0)
	must(3, 0, 5, 1, false, 7, math.MinInt)
	handle(api.Packet{Kind: 5, From: 2, To: 1, ID: 3, Line: 3, Ptr: -1}, api.Packet{Kind: 8, From: 1, To: 2, ID: 3, Line: 3}, 0)
	must(3, 0, -1, 1, false, 7, math.MinInt)
	must(5, -1, 0, 2, false, 1)
	handle(api.Packet{Kind: 6, From: 0, To: 1, ID: 4, Line: 3, Ptr: 5}, api.Packet{Kind: 9, From: 1, To: 0, ID: 4, Line: 3, Data: []int{7, math.MinInt}}, 0)
	handle(api.Packet{Kind: 6, From: 0, To: 1, ID: 4, Line: 3, Ptr: 5}, api.Packet{}, 3)
	handle(api.Packet{Kind: 6, From: 0, To: 1, ID: 6, Line: 5}, api.Packet{Kind: 9, From: 1, To: 0, ID: 6, Line: 5, Ptr: -1, Data: []int{1}}, 0)
	if c.Len() != 0 || len(c.Lines()) != 0 {
		t.Fatal(c.Lines())
	}
}

// P12.1: each that a cache is asked for, with each Ptr, of an entry at each place in its list, clean and dirty, with so many words.
func TestEachRequest(t *testing.T) {
	for kind := api.Attach; kind <= api.Purge; kind++ {
		for ptr := api.None; ptr < api.MaxNodes; ptr++ {
			for _, place := range places {
				for words := range api.MaxWords + 2 {
					for _, dirty := range []bool{false, true} {
						b := newPair(t, 2, 3, 1, 2, 3)
						b.put(t, copied{line: 5, fwd: place[0], back: place[1], dirty: dirty, data: counting(words, -2)})
						b.put(t, copied{line: 4})
						if b.handle(t, ask(kind, 5, ptr)) != api.OK {
							t.Fatal(kind, ptr, place, words, dirty)
						}
					}
				}
			}
		}
	}
}

// P12.1: each of all entries of each cache, asked for one thing, and for all one after the other.
func TestEachEntry(t *testing.T) {
	each(t, func(b *pair) {
		for kind := api.Attach; kind <= api.Purge; kind++ {
			for line := range api.MaxLines {
				b.handle(t, ask(kind, line, line%api.MaxNodes))
			}
		}
		if b.c.Len() != 0 {
			t.Fatal(b.c.Lines())
		}
	})
}

// P12.1: the answer goes from the packet's To to its From, with its ID and its Line; its other fields hang on nothing but the entry.
func TestAnswer(t *testing.T) {
	for from := range api.MaxNodes {
		for to := range api.MaxNodes {
			for _, id := range []int{0, 1, 255, 256, 4095} {
				for state := api.Home; state <= api.Gone; state++ {
					for _, flag := range []bool{false, true} {
						b := newPair(t, 4, 2, 0, 1, 2, 3, 4, 5, 6, 7)
						for kind := api.Attach; kind <= api.Purge; kind++ {
							line := (from + to + kind) % api.MaxLines
							p := api.Packet{Kind: kind, From: from, To: to, ID: id, Line: line, Ptr: 1, State: state, Flag: flag, Data: counting(state, 1000)}
							if b.handle(t, p) != api.OK {
								t.Fatal(p)
							}
						}
					}
				}
			}
		}
	}
}

// P12.1: Attach of what is Dirty tells so, and of what is not Dirty (any more) does not; the words are told each time.
func TestAttachTwice(t *testing.T) {
	for _, dirty := range []bool{true, false} {
		c := cache.New(1, 1)
		c.Put(entry.New(6, 3, api.None, dirty, 8, 9))
		for n := range 4 {
			got, e := serve.Handle(c, ask(api.Attach, 6, n))
			want := api.Packet{Kind: api.Told, From: 1, To: 4, ID: 9, Line: 6, Flag: dirty && n == 0, Data: []int{8, 9}}
			x, ok := c.Find(6)
			if e != api.OK || !packet.Same(got, want) || !ok || x.Dirty || x.Back != n || x.Fwd != 3 {
				t.Fatal(dirty, n, got, e, x, ok)
			}
			if x.Write(0, 1) {
				t.Fatal("written, though not Dirty")
			}
		}
		if got, e := serve.Handle(c, ask(api.Purge, 6, 0)); e != api.OK || got.Flag || got.Ptr != 3 {
			t.Fatal(got, e)
		}
	}
}

// P12.1: SetFwd and SetBack leave what is Dirty so: it is told by the Purge behind them, which tells the last Fwd.
func TestSetThenPurge(t *testing.T) {
	for ptr := api.None; ptr < api.MaxNodes; ptr++ {
		for _, dirty := range []bool{false, true} {
			c := cache.New(1, 1)
			c.Put(entry.New(6, 3, 2, dirty, 8, 9))
			serve.Handle(c, ask(api.SetFwd, 6, 5-ptr-1))
			serve.Handle(c, ask(api.SetFwd, 6, ptr))
			serve.Handle(c, ask(api.SetBack, 6, 4-ptr))
			got, e := serve.Handle(c, ask(api.Purge, 6, 1))
			if want := (api.Packet{Kind: api.Told, From: 1, To: 4, ID: 9, Line: 6, Ptr: ptr, Flag: dirty, Data: []int{8, 9}}); e != api.OK || !packet.Same(got, want) {
				t.Fatal(ptr, dirty, got, e)
			}
		}
	}
}

// P12.1: what is purged is not there any more: whatever is asked of it then is ErrNone; a new one may come in its place.
func TestPurgeTwice(t *testing.T) {
	each(t, func(b *pair) {
		for line := range api.MaxLines {
			if b.at(line) == -1 {
				continue
			}
			if b.handle(t, ask(api.Purge, line, 0)) != api.OK {
				t.Fatal(line)
			}
			for kind := api.Purge; kind >= api.Attach; kind-- {
				if b.handle(t, ask(kind, line, 0)) != api.ErrNone {
					t.Fatal(line, kind)
				}
			}
			if b.c.Full(line) {
				t.Fatal(line)
			}
		}
	})
}

// P12.1: Used stays, and so does the order in which lines are victims; the cache's count goes on as if nothing had been asked.
func TestUsedStays(t *testing.T) {
	for _, first := range []int{0, 1, 2} {
		c := cache.New(1, 3)
		for line := range 3 {
			c.Put(entry.New(line, api.None, api.None, true, line))
		}
		for kind := api.Attach; kind < api.Purge; kind++ {
			for n := range 3 {
				serve.Handle(c, ask(kind, (first+n)%3, 2))
			}
			if victim, ok := c.Victim(7); !ok || victim != 0 {
				t.Fatal(first, kind, victim, ok)
			}
		}
		for line := range 3 {
			if x, _ := c.Find(line); x.Used != line+1 {
				t.Fatal(first, x)
			}
		}
		c.Touch(first)
		if x, _ := c.Find(first); x.Used != 4 {
			t.Fatal(first, x)
		}
	}
}

// wrong are packets as they might be, each with one field that may not be.
func wrong(p api.Packet) []api.Packet {
	list := []api.Packet{}
	for _, n := range odd {
		q := p
		if q.Kind = n; !within(3, n, 6) {
			list = append(list, q)
		}
		q = p
		if q.From = n; !within(0, n, 5) {
			list = append(list, q)
		}
		q = p
		if q.To = n; !within(0, n, 5) {
			list = append(list, q)
		}
		q = p
		if q.ID = n; !within(0, n, 4095) {
			list = append(list, q)
		}
		q = p
		if q.Line = n; !within(0, n, 7) {
			list = append(list, q)
		}
		q = p
		if q.Ptr = n; !within(-1, n, 5) {
			list = append(list, q)
		}
		q = p
		if q.State = n; !within(0, n, 2) {
			list = append(list, q)
		}
	}
	for _, n := range []int{5, 6, 256, 257, 1000} {
		q := p
		q.Data = counting(n, 1)
		list = append(list, q)
	}
	return list
}

// P12.1: ErrArg of each thing that packet.Check says, and of each Kind that is not Attach to Purge; ahead of ErrNone; nothing is another one behind it.
func TestWrong(t *testing.T) {
	each(t, func(b *pair) {
		for kind := api.Attach; kind <= api.Purge; kind++ {
			for _, line := range []int{0, 1, 5, 7} {
				for _, p := range wrong(ask(kind, line, 2)) {
					got, e := serve.Handle(b.c, p)
					if e != api.ErrArg || !packet.Same(got, api.Packet{}) {
						t.Fatal(p, got, e)
					}
				}
			}
		}
		b.must(t)
	})
}

// P12.1: a line that is in the cache, but may be in no packet: ErrArg, and it stays.
func TestLinesPastTheLast(t *testing.T) {
	for _, line := range odd {
		if line < api.MaxLines {
			continue
		}
		b := newPair(t, 1, 2, 3)
		b.put(t, copied{line: line, fwd: 2, back: 3, dirty: true, data: []int{1}})
		for kind := api.Attach; kind <= api.Purge; kind++ {
			if b.handle(t, ask(kind, line, 0)) != api.ErrArg {
				t.Fatal(line, kind)
			}
		}
	}
}

// P12.1: as many Data, and as great numbers, as a request may have are taken, and do not come to the entry.
func TestMost(t *testing.T) {
	for kind := api.Attach; kind <= api.Purge; kind++ {
		b := newPair(t, 4, 2, 7, 3)
		p := api.Packet{Kind: kind, From: 5, To: 5, ID: 4095, Line: 7, Ptr: 5, State: 2, Flag: true, Data: []int{math.MaxInt, math.MinInt, -1, 0}}
		if b.handle(t, p) != api.OK {
			t.Fatal(kind)
		}
	}
}

// P12.1, R4: an answer's Data written into: the entry is as it was, and so are the answers ahead of it.
func TestMemory(t *testing.T) {
	c := cache.New(1, 2)
	c.Put(entry.New(2, 1, api.None, true, 10, 11, 12))
	first, _ := serve.Handle(c, ask(api.Attach, 2, 0))
	second, _ := serve.Handle(c, ask(api.Attach, 2, 0))
	spoil(first.Data)
	x, _ := c.Find(2)
	if want := []int{10, 11, 12}; !slices.Equal(second.Data, want) || !slices.Equal(x.Data, want) {
		t.Fatal(second, x)
	}
	spoil(second.Data)
	spoil(x.Data)
	last, e := serve.Handle(c, ask(api.Purge, 2, 0))
	if e != api.OK || !slices.Equal(last.Data, []int{10, 11, 12}) {
		t.Fatal(last, e)
	}
	c.Put(entry.New(2, 1, api.None, true, 20, 21, 22))
	if !slices.Equal(last.Data, []int{10, 11, 12}) {
		t.Fatal(last)
	}
	spoil(last.Data)
	if x, _ = c.Find(2); !slices.Equal(x.Data, []int{20, 21, 22}) {
		t.Fatal(x)
	}
}

// ways calls f with each list of that many numbers below n.
func ways(many, n int, f func(list []int)) {
	list := make([]int, many)
	for {
		f(list)
		at := many - 1
		for at >= 0 && list[at] == n-1 {
			list[at] = 0
			at--
		}
		if at < 0 {
			return
		}
		list[at]++
	}
}

// P12.1: each way of four requests of two lines of one set, and of one that is not there.
func TestEachWay(t *testing.T) {
	asks := []api.Packet{}
	for kind := api.Attach; kind <= api.Purge; kind++ {
		asks = append(asks, ask(kind, 1, 5), ask(kind, 3, api.None), ask(kind, 5, 0))
	}
	ways(4, len(asks), func(list []int) {
		b := newPair(t, 2, 2, 1, 3)
		for _, n := range list {
			b.handle(t, asks[n])
		}
	})
}

// dice is a row of numbers that is the same each time.
type dice uint64

func (d *dice) below(n int) int {
	*d = *d*6364136223846793005 + 1442695040888963407
	return int(uint64(*d) >> 33 % uint64(n))
}

// any is a packet of which most fields are such that it may be taken.
func (d *dice) any() api.Packet {
	p := api.Packet{Kind: 3 + d.below(4), From: d.below(6), To: d.below(6), ID: d.below(4096), Line: d.below(8), Ptr: d.below(7) - 1}
	if d.below(3) == 0 {
		p.State, p.Flag, p.Data = d.below(3), d.below(2) == 0, counting(d.below(5), d.below(1000))
	}
	if d.below(8) == 0 {
		list := wrong(p)
		p = list[d.below(len(list))]
	}
	return p
}

// P12.1, R5: long ways of requests that are taken, and of those that are not, while lines come again.
func TestLongWays(t *testing.T) {
	d := dice(12)
	taken, refused, none := 0, 0, 0
	for range 200 {
		sets, ways := 1+d.below(api.MaxSets), 1+d.below(api.MaxWays)
		b := newPair(t, sets, ways, full(sets, ways, d.below(8))...)
		puts := len(b.list)
		for range 60 {
			switch b.handle(t, d.any()) {
			case api.OK:
				taken++
			case api.ErrArg:
				refused++
			case api.ErrNone:
				none++
			}
			line := d.below(8)
			if d.below(3) > 0 || b.at(line) != -1 || b.c.Full(line) {
				continue
			}
			x := copied{line: line, fwd: d.below(7) - 1, back: d.below(7) - 1, dirty: d.below(2) == 0, data: counting(d.below(5), d.below(1000))}
			b.put(t, x)
			puts++
			b.list[len(b.list)-1].used = puts
		}
	}
	if taken < 1000 || refused < 500 || none < 1000 {
		t.Fatal(taken, refused, none)
	}
}
