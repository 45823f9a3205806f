package memdir_test

import (
	"math"
	"slices"
	"testing"

	"chaplet/api"
	"chaplet/memdir"
)

// odd are numbers at the edges: of states, of nodes, of lines, of what fewer digits can tell.
var odd = []int{-1, 0, 1, 2, 3, 4, 5, 6, 7, 8, 9, -2, -3, -6, 255, 256, 1<<16 - 1, 1<<32 - 1, 1 << 32, 1<<32 + 1, -1 << 32, 1 << 62, math.MinInt, math.MinInt + 1, math.MaxInt - 1, math.MaxInt}

// states are the document's, by their numbers: Home, Fresh, Gone.
var states = []int{0, 1, 2}

// some is a configuration of several nodes, lines and words; its Init ends within line 2.
func some() api.Config {
	return api.Config{Nodes: 3, Lines: 7, Words: 3, Sets: 2, Ways: 2, Out: 2, In: 3, Init: []int{10, -11, 12, 13, 14, math.MinInt, math.MaxInt}}
}

func counting(n, from int) []int {
	list := make([]int, n)
	for i := range list {
		list[i] = from + i
	}
	return list
}

// each calls f with every number of nodes, lines and words that may be, and
// every node of them; without Init, with a part of it, with all of it.
func each(f func(c api.Config, node int)) {
	for nodes := 1; nodes <= api.MaxNodes; nodes++ {
		for lines := 1; lines <= api.MaxLines; lines++ {
			for words := 1; words <= api.MaxWords; words++ {
				for _, n := range []int{0, lines*words/2 + 1, lines * words} {
					c := api.Config{Nodes: nodes, Lines: lines, Words: words, Sets: 1 + lines%4, Ways: 1 + nodes%3, Out: 8, In: 1, Init: counting(n, 100)}
					for node := range nodes {
						f(c, node)
					}
				}
			}
		}
	}
}

// spoil writes into all of the numbers' memory, what lies behind their length too.
func spoil(numbers []int) {
	whole := numbers[:cap(numbers)]
	for i := range whole {
		whole[i] = -777 - i
	}
}

func alike(a, b memdir.Row) bool {
	return a.State == b.State && a.Head == b.Head && slices.Equal(a.Data, b.Data)
}

// pair is a directory beside what it is held against: of each line its row, and whether it is here.
type pair struct {
	d    *memdir.Dir
	c    api.Config
	rows []memdir.Row
	here []bool
}

// newPair deals the lines round, and the words of Init line by line.
func newPair(c api.Config, node int) *pair {
	b := &pair{d: memdir.New(c, node), c: c}
	words, home := slices.Clone(c.Init), 0
	for len(words) < c.Lines*c.Words {
		words = append(words, 0)
	}
	for range c.Lines {
		b.rows = append(b.rows, memdir.Row{State: 0, Head: -1, Data: words[:c.Words]})
		b.here = append(b.here, home == node)
		words = words[c.Words:]
		if home++; home == c.Nodes {
			home = 0
		}
	}
	return b
}

func (b *pair) has(line int) bool {
	return 0 <= line && line < b.c.Lines && b.here[line]
}

// lines are those that are here.
func (b *pair) lines() []int {
	lines := []int{}
	for line, here := range b.here {
		if here {
			lines = append(lines, line)
		}
	}
	return lines
}

// must asks all that a directory tells.
func (b *pair) must(t *testing.T) {
	t.Helper()
	if got, want := b.d.Lines(), b.lines(); !slices.Equal(got, want) {
		t.Fatalf("%+v: Lines %v, want %v", b.c, got, want)
	}
	for line := range b.c.Lines {
		b.mustRow(t, line)
	}
	for _, line := range []int{-1, -b.c.Nodes, b.c.Lines, b.c.Lines + b.c.Nodes, 2 * b.c.Lines * b.c.Nodes, math.MinInt, math.MaxInt} {
		b.mustRow(t, line)
	}
}

func (b *pair) mustRow(t *testing.T, line int) {
	t.Helper()
	want := memdir.Row{}
	if b.has(line) {
		want = b.rows[line]
	}
	if got, ok := b.d.Row(line); ok != b.has(line) || !alike(got, want) {
		t.Fatalf("%+v: Row(%d) %v, %v; want %v, %v", b.c, line, got, ok, want, b.has(line))
	}
}

// wanted is what Set has to answer, by the document's words in their order.
func (b *pair) wanted(line, state, head int, data []int) api.Errno {
	if !b.has(line) {
		return 3 // ErrNone
	}
	noState := !slices.Contains(states, state)
	noHead := head < -1 || head > b.c.Nodes-1
	alone := head == -1 && state != 0
	other := head != -1 && state == 0
	if noState || noHead || alone || other || len(data) != 0 && len(data) != b.c.Words {
		return 1 // ErrArg
	}
	return 0 // OK
}

// set does the same to both, and asks of the line alone what has become of it.
func (b *pair) set(t *testing.T, line, state, head int, data ...int) api.Errno {
	t.Helper()
	want := b.wanted(line, state, head, data)
	if got := b.d.Set(line, state, head, data...); got != want {
		t.Fatalf("%d nodes, %d lines, %d words: Set(%d, %d, %d, %v) %d, want %d", b.c.Nodes, b.c.Lines, b.c.Words, line, state, head, data, got, want)
	}
	if want == api.OK {
		b.rows[line].State, b.rows[line].Head = state, head
		if len(data) > 0 {
			b.rows[line].Data = slices.Clone(data)
		}
	}
	b.mustRow(t, line)
	return want
}

// P9.1: what a new one knows: of each line whose home is here Home, None, its words; of the others nothing.
func TestNew(t *testing.T) {
	each(func(c api.Config, node int) {
		b := newPair(c, node)
		b.must(t)
		for _, line := range odd {
			b.mustRow(t, line)
		}
	})
}

// P9.1, the example: Row of a line of another home: false; by hand.
func TestByHand(t *testing.T) {
	d := memdir.New(some(), 1)
	if got := d.Lines(); !slices.Equal(got, []int{1, 4}) {
		t.Fatal(got)
	}
	if r, ok := d.Row(1); !ok || r.State != api.Home || r.Head != api.None || !slices.Equal(r.Data, []int{13, 14, math.MinInt}) {
		t.Fatal(r, ok)
	}
	if r, ok := d.Row(4); !ok || r.State != api.Home || r.Head != api.None || !slices.Equal(r.Data, []int{0, 0, 0}) {
		t.Fatal(r, ok)
	}
	for _, line := range []int{0, 2, 3, 5, 6, 7, 10, -1, -2} {
		if r, ok := d.Row(line); ok || r.State != 0 || r.Head != 0 || r.Data != nil {
			t.Fatal(line, r, ok)
		}
	}
	if e := d.Set(4, api.Fresh, 2); e != api.OK {
		t.Fatal(e)
	}
	if r, ok := d.Row(4); !ok || r.State != api.Fresh || r.Head != 2 || !slices.Equal(r.Data, []int{0, 0, 0}) {
		t.Fatal(r, ok)
	}
	if e := d.Set(1, api.Gone, 0, 5, -6, 7); e != api.OK {
		t.Fatal(e)
	}
	if r, ok := d.Row(1); !ok || r.State != api.Gone || r.Head != 0 || !slices.Equal(r.Data, []int{5, -6, 7}) {
		t.Fatal(r, ok)
	}
	if e := d.Set(1, api.Home, api.None); e != api.OK {
		t.Fatal(e)
	}
	if r, ok := d.Row(1); !ok || r.State != api.Home || r.Head != api.None || !slices.Equal(r.Data, []int{5, -6, 7}) {
		t.Fatal(r, ok)
	}
	if e := d.Set(2, api.Home, api.None); e != api.ErrNone {
		t.Fatal(e)
	}
}

// P9.1: each line has one home, whose Row tells it, and no other node does.
func TestOneHomeOfEachLine(t *testing.T) {
	for nodes := 1; nodes <= api.MaxNodes; nodes++ {
		for lines := 1; lines <= api.MaxLines; lines++ {
			c := api.Config{Nodes: nodes, Lines: lines, Words: 1, Sets: 1, Ways: 1, Out: 1, In: 1}
			for line := range lines {
				homes := []int{}
				for node := -2; node < nodes+9; node++ {
					if _, ok := memdir.New(c, node).Row(line); ok {
						homes = append(homes, node)
					}
				}
				if len(homes) != 1 || homes[0] != line%nodes {
					t.Fatalf("%d nodes: line %d is at %v", nodes, line, homes)
				}
			}
		}
	}
}

// P9.1: Lines rising: of a home of all lines, of many, of one, of none.
func TestLines(t *testing.T) {
	for _, r := range []struct {
		nodes, lines, node int
		want               []int
	}{
		{1, 8, 0, []int{0, 1, 2, 3, 4, 5, 6, 7}},
		{1, 1, 0, []int{0}},
		{2, 8, 0, []int{0, 2, 4, 6}},
		{2, 8, 1, []int{1, 3, 5, 7}},
		{2, 7, 0, []int{0, 2, 4, 6}},
		{2, 7, 1, []int{1, 3, 5}},
		{3, 8, 2, []int{2, 5}},
		{6, 8, 1, []int{1, 7}},
		{6, 8, 2, []int{2}},
		{6, 2, 1, []int{1}},
		{6, 2, 2, nil},
		{6, 1, 5, nil},
		{2, 8, 2, nil},
		{1, 8, 1, nil},
	} {
		c := api.Config{Nodes: r.nodes, Lines: r.lines, Words: 2, Sets: 1, Ways: 1, Out: 1, In: 1}
		if got := memdir.New(c, r.node).Lines(); !slices.Equal(got, r.want) {
			t.Errorf("%d nodes, %d lines: Lines at %d: %v, want %v", r.nodes, r.lines, r.node, got, r.want)
		}
	}
}

// P9.1, R5: Lines are the same each time, and whatever was set, in whatever order, or refused.
func TestLinesStay(t *testing.T) {
	c := api.Config{Nodes: 1, Lines: 8, Words: 1, Sets: 1, Ways: 1, Out: 1, In: 1}
	want := []int{0, 1, 2, 3, 4, 5, 6, 7}
	for range 50 {
		d := memdir.New(c, 0)
		for _, line := range []int{7, 3, 0, 8, 5, -1, 3, 6, 1, 9} {
			d.Set(line, api.Gone, 0, line)
			d.Set(line, api.Home, 0, line)
			if got := d.Lines(); !slices.Equal(got, want) {
				t.Fatal(got)
			}
		}
	}
}

// R1, R8: a node that is not, and a home of no line: nothing is there, and nothing comes.
func TestNoLineHere(t *testing.T) {
	mustNone := func(c api.Config, node int) {
		d := memdir.New(c, node)
		for _, line := range odd {
			if e := d.Set(line, api.Home, api.None); e != api.ErrNone {
				t.Fatal(c.Nodes, node, line, e)
			}
			if r, ok := d.Row(line); ok || !alike(r, memdir.Row{}) {
				t.Fatal(c.Nodes, node, line, r)
			}
		}
		if got := d.Lines(); len(got) != 0 {
			t.Fatal(c.Nodes, node, got)
		}
	}
	for nodes := 1; nodes <= api.MaxNodes; nodes++ {
		for lines := 1; lines <= api.MaxLines; lines++ {
			c := api.Config{Nodes: nodes, Lines: lines, Words: 1, Sets: 1, Ways: 1, Out: 1, In: 1}
			for _, node := range odd {
				if node < 0 || node >= nodes || node >= lines {
					mustNone(c, node)
				}
			}
		}
	}
}

// P9.1: a row of each state, with each head that it may have, with data and without: it is that, and the others stay.
func TestSetAndReadAgain(t *testing.T) {
	each(func(c api.Config, node int) {
		b, from := newPair(c, node), 1000
		for line := range c.Lines {
			for head := range c.Nodes {
				for _, state := range []int{api.Fresh, api.Gone} {
					from += 10
					b.set(t, line, state, head)
					b.set(t, line, state, c.Nodes-1-head, counting(c.Words, from)...)
				}
			}
			b.must(t)
			b.set(t, line, api.Home, api.None)
			b.set(t, line, api.Home, api.None, counting(c.Words, -from)...)
			b.set(t, line, api.Gone, 0)
			b.must(t)
		}
	})
}

// P9.1: from each row that may be to each other one.
func TestFromEachToEach(t *testing.T) {
	c := some()
	rows := []memdir.Row{{State: api.Home, Head: api.None}}
	for head := range c.Nodes {
		rows = append(rows, memdir.Row{State: api.Fresh, Head: head}, memdir.Row{State: api.Gone, Head: head})
	}
	for node := range c.Nodes {
		b := newPair(c, node)
		for i, from := range rows {
			for k, to := range rows {
				for _, line := range b.lines() {
					for _, data := range [][]int{nil, {i, k, line}} {
						first := b.set(t, line, from.State, from.Head)
						second := b.set(t, line, to.State, to.Head, data...)
						if first != api.OK || second != api.OK {
							t.Fatal(from, to, first, second)
						}
					}
				}
			}
		}
		b.must(t)
	}
}

// P9.1, R2, R6: each state and each head, those that are and those that are not, with each count of data; what is refused changes nothing.
func TestSetEachStateAndHead(t *testing.T) {
	for nodes := 1; nodes <= api.MaxNodes; nodes++ {
		c := api.Config{Nodes: nodes, Lines: 8, Words: 2, Sets: 1, Ways: 1, Out: 1, In: 1, Init: []int{1, 2, 3}}
		b := newPair(c, nodes-1)
		here, other := nodes-1, nodes
		if nodes == 1 {
			other = 8
		}
		for _, state := range odd {
			for _, head := range odd {
				for count := range 5 {
					b.set(t, here, state, head, counting(count, state^head)...)
					b.set(t, other, state, head, counting(count, state^head)...)
				}
			}
			b.must(t)
		}
	}
}

// P9.1: a head below None, at Nodes, above; the last node is one.
func TestHeads(t *testing.T) {
	each(func(c api.Config, node int) {
		if node >= c.Lines {
			return
		}
		b := newPair(c, node)
		for _, state := range []int{api.Fresh, api.Gone} {
			for _, head := range []int{-2, -3, c.Nodes, c.Nodes + 1, api.MaxNodes, math.MinInt, math.MaxInt, 1 << 32, -1 << 32} {
				if b.set(t, node, state, head) != api.ErrArg {
					t.Fatal(c.Nodes, state, head)
				}
			}
			for _, head := range []int{0, c.Nodes - 1} {
				if b.set(t, node, state, head) != api.OK {
					t.Fatal(c.Nodes, state, head)
				}
			}
		}
	})
}

// P9.1: None is the head of Home, and of no other state; Home has no other head.
func TestNoneAndHome(t *testing.T) {
	each(func(c api.Config, node int) {
		if node >= c.Lines {
			return
		}
		b := newPair(c, node)
		for _, state := range []int{api.Fresh, api.Gone} {
			b.set(t, node, state, c.Nodes-1)
			if b.set(t, node, state, api.None) != api.ErrArg || b.set(t, node, state, api.None, counting(c.Words, 7)...) != api.ErrArg {
				t.Fatal(state, "None")
			}
			for head := range c.Nodes {
				if b.set(t, node, api.Home, head) != api.ErrArg || b.set(t, node, api.Home, head, counting(c.Words, 7)...) != api.ErrArg {
					t.Fatal("Home", head)
				}
			}
			if b.set(t, node, api.Home, api.None) != api.OK {
				t.Fatal("Home, None")
			}
		}
	})
}

// P9.1: no such state, with each head, be it right for one or not.
func TestNoSuchState(t *testing.T) {
	b := newPair(some(), 2)
	for _, state := range []int{-1, -2, 3, 4, 9, 1 << 32, 1<<32 + 1, 1<<32 + 2, -1 << 32, math.MinInt, math.MaxInt} {
		for head := -1; head < 3; head++ {
			if b.set(t, 2, state, head) != api.ErrArg || b.set(t, 5, state, head, 1, 2, 3) != api.ErrArg {
				t.Fatal(state, head)
			}
		}
	}
	b.must(t)
}

// P9.1: too few words, too many, just Words of them, none.
func TestCounts(t *testing.T) {
	for words := 1; words <= api.MaxWords; words++ {
		c := api.Config{Nodes: 2, Lines: 8, Words: words, Sets: 1, Ways: 1, Out: 1, In: 1, Init: counting(5*words, 50)}
		b := newPair(c, 1)
		for _, count := range []int{0, 1, 2, 3, 4, 5, 6, 2 * words, 3 * words, 8 * words, 256, 256 + words, 1000} {
			for _, state := range states {
				head := 1
				if state == api.Home {
					head = api.None
				}
				want := api.ErrArg
				if count == 0 || count == words {
					want = api.OK
				}
				if b.set(t, 3, state, head, counting(count, 10*count+state)...) != want {
					t.Fatal(words, count, state)
				}
			}
		}
		b.must(t)
	}
}

// P9.1, R4, Ways: Set's data one by one, as a list, and none of it in each way: then Data stays.
func TestSetIsVariadic(t *testing.T) {
	c := some()
	d := memdir.New(c, 0)
	must := func(e api.Errno, state, head int, data ...int) {
		t.Helper()
		if r, ok := d.Row(3); e != api.OK || !ok || !alike(r, memdir.Row{State: state, Head: head, Data: data}) {
			t.Fatal(e, r, ok)
		}
	}
	must(d.Set(3, api.Fresh, 1), api.Fresh, 1, 0, 0, 0)
	must(d.Set(3, api.Gone, 2, 7, 8, 9), api.Gone, 2, 7, 8, 9)
	must(d.Set(3, api.Home, -1), api.Home, -1, 7, 8, 9)
	must(d.Set(3, api.Fresh, 0, nil...), api.Fresh, 0, 7, 8, 9)
	must(d.Set(3, api.Gone, 1, []int{}...), api.Gone, 1, 7, 8, 9)
	must(d.Set(3, api.Gone, 2, []int{4, 5, 6}[:0]...), api.Gone, 2, 7, 8, 9)
	must(d.Set(3, api.Fresh, 2, []int{0, 0, 0}...), api.Fresh, 2, 0, 0, 0)
	must(d.Set(3, api.Fresh, 2, []int{math.MinInt, math.MaxInt, -1}...), api.Fresh, 2, math.MinInt, math.MaxInt, -1)
}

// P9.1, R2: not here comes first, whatever else is wrong.
func TestNotHereComesFirst(t *testing.T) {
	b := newPair(some(), 1)
	for _, line := range []int{0, 2, 3, 5, 6, 7, 10, 13, -1, -2, 1 << 32, 1<<32 + 1, math.MinInt, math.MaxInt} {
		for _, state := range []int{-1, 0, 1, 2, 3} {
			for _, head := range []int{-2, -1, 0, 2, 3} {
				for count := range 5 {
					if b.set(t, line, state, head, counting(count, 1)...) != api.ErrNone {
						t.Fatal(line, state, head, count)
					}
				}
			}
		}
	}
	b.must(t)
}

// R2: each one thing wrong, the rest right: nothing of the row is changed, its words neither.
func TestRefusedChangesNothing(t *testing.T) {
	for _, was := range []memdir.Row{{State: api.Home, Head: api.None}, {State: api.Fresh, Head: 2}, {State: api.Gone, Head: 0}} {
		b := newPair(some(), 1)
		b.set(t, 4, was.State, was.Head, 3, 2, 1)
		b.must(t)
		for i, e := range []api.Errno{
			b.set(t, 4, 3, 1, 7, 7, 7),
			b.set(t, 4, -1, api.None, 7, 7, 7),
			b.set(t, 4, api.Fresh, 3, 7, 7, 7),
			b.set(t, 4, api.Gone, -2, 7, 7, 7),
			b.set(t, 4, api.Gone, api.None, 7, 7, 7),
			b.set(t, 4, api.Home, 1, 7, 7, 7),
			b.set(t, 4, api.Gone, 1, 7, 7),
			b.set(t, 4, api.Fresh, 1, 7, 7, 7, 7),
			b.set(t, 4, api.Home, api.None, 7),
		} {
			if e != api.ErrArg {
				t.Fatal(was, i, e)
			}
		}
		b.must(t)
	}
}

// turn is one Set.
type turn struct {
	line, state, head int
	data              []int
}

// R5: each way of four turns: a row is that of the last Set of its line that was not refused.
func TestEachWayOfFourTurns(t *testing.T) {
	c := api.Config{Nodes: 2, Lines: 4, Words: 2, Sets: 1, Ways: 1, Out: 1, In: 1, Init: []int{1, 2, 3, 4, 5}}
	turns := []turn{
		{0, api.Fresh, 1, nil},
		{0, api.Gone, 0, []int{6, 7}},
		{0, api.Home, api.None, nil},
		{0, api.Home, api.None, []int{8, 9}},
		{0, api.Gone, 1, []int{8}},
		{2, api.Fresh, 0, []int{10, 11}},
		{2, api.Fresh, 2, []int{12, 13}},
		{2, api.Home, api.None, nil},
		{1, api.Gone, 1, []int{14, 15}},
		{4, api.Gone, 1, nil},
	}
	for n := range 10000 {
		b := newPair(c, 0)
		for range 4 {
			s := turns[n%len(turns)]
			n /= len(turns)
			b.set(t, s.line, s.state, s.head, s.data...)
		}
		b.must(t)
	}
}

// R5: long ways of every configuration, with rows that no other turn has.
func TestLongWays(t *testing.T) {
	each(func(c api.Config, node int) {
		b := newPair(c, node)
		for n := range 40 {
			line := n*7%(c.Lines+2) - 1
			state := n * 5 % 4
			head := n*3%(c.Nodes+2) - 1
			if n%3 == 0 {
				state, head = api.Home, api.None
			}
			b.set(t, line, state, head, counting(n%2*c.Words, 1000*n)...)
		}
		b.must(t)
	})
}

// R5: what is set at one home is not set at another, nor at one made of the same configuration.
func TestHomesAreApart(t *testing.T) {
	c := some()
	homes := []*pair{newPair(c, 0), newPair(c, 0), newPair(c, 1), newPair(c, 2)}
	for i, b := range homes {
		for _, line := range b.lines() {
			b.set(t, line, 1+i%2, i%3, 100*i, 100*i+line, line)
			for _, other := range homes {
				other.must(t)
			}
		}
	}
}

// R4: Init is neither changed, nor kept, nor read behind its length.
func TestInitMemory(t *testing.T) {
	each(func(c api.Config, node int) {
		memory := append(append([]int{41}, c.Init...), counting(40, 900)...)
		was := slices.Clone(memory)
		given := c
		given.Init = memory[1 : 1+len(c.Init)]
		b := newPair(c, node)
		b.d = memdir.New(given, node)
		b.must(t)
		for _, line := range b.lines() {
			b.set(t, line, api.Fresh, 0)
			r, _ := b.d.Row(line)
			spoil(r.Data)
			b.set(t, line, api.Home, api.None, counting(c.Words, 3)...)
		}
		if !slices.Equal(memory, was) {
			t.Fatalf("Init's memory is %v, was %v", memory, was)
		}
		b = newPair(c, node)
		b.d = memdir.New(given, node)
		spoil(memory)
		b.must(t)
	})
}

// R4: Set's list is neither changed, nor kept, nor read behind its length.
func TestSetMemory(t *testing.T) {
	for words := 1; words <= api.MaxWords; words++ {
		c := api.Config{Nodes: 1, Lines: 3, Words: words, Sets: 1, Ways: 1, Out: 1, In: 1, Init: counting(3*words, 20)}
		b := newPair(c, 0)
		for n := range 6 {
			for count := range words + 2 {
				memory := append([]int{41}, counting(20, 100*n)...)
				was := slices.Clone(memory)
				data := memory[1 : 1+count]
				b.set(t, n%3, api.Gone, 0, data...)
				b.must(t)
				if !slices.Equal(memory, was) {
					t.Fatalf("memory is %v, was %v", memory, was)
				}
				spoil(memory)
				b.must(t)
			}
		}
	}
}

// R4: one list that is given to two lines is not shared by them.
func TestSetSharesNothing(t *testing.T) {
	b := newPair(some(), 0)
	data := []int{1, 2, 3}
	for _, line := range b.lines() {
		b.set(t, line, api.Fresh, 1, data...)
		data[0]++
		b.must(t)
	}
	r, _ := b.d.Row(0)
	b.set(t, 3, api.Gone, 1, r.Data...)
	spoil(r.Data)
	b.must(t)
}

// R4: what Row has told written into: nothing that the home knows, or has told before, is another for it.
func TestRowMemory(t *testing.T) {
	each(func(c api.Config, node int) {
		b := newPair(c, node)
		for n, line := range b.lines() {
			for _, data := range [][]int{nil, counting(c.Words, 70*n)} {
				b.set(t, line, api.Gone, c.Nodes-1, data...)
				first, _ := b.d.Row(line)
				second, _ := b.d.Row(line)
				second.State, second.Head = 9, 9
				_ = append(second.Data, 99)
				spoil(second.Data)
				b.must(t)
				if !alike(first, b.rows[line]) {
					t.Fatalf("what was told before is %v, was %v", first, b.rows[line])
				}
				want := slices.Clone(first.Data)
				b.set(t, line, api.Home, api.None, counting(c.Words, -n)...)
				if !slices.Equal(first.Data, want) {
					t.Fatalf("Set wrote into what was told: %v, was %v", first.Data, want)
				}
			}
		}
	})
}

// R4: what Lines has told written into: the next Lines, and those told before, are as they were.
func TestLinesMemory(t *testing.T) {
	each(func(c api.Config, node int) {
		b := newPair(c, node)
		first, second := b.d.Lines(), b.d.Lines()
		_ = append(second, 99)
		spoil(second)
		b.must(t)
		if !slices.Equal(first, b.lines()) {
			t.Fatalf("what was told before is %v, was %v", first, b.lines())
		}
	})
}
