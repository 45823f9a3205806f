package plan_test

import (
	"math"
	"slices"
	"testing"

	"chaplet/api"
	"chaplet/plan"
)

// some is a configuration whose numbers are all different, so that one taken
// for another is found; Init lacks the last words of line 2, and lines 3 to 6.
func some() api.Config {
	return api.Config{Nodes: 5, Lines: 7, Words: 3, Sets: 4, Ways: 2, Out: 6, In: 8, Init: []int{10, -11, 12, 13, 14, math.MinInt, math.MaxInt}}
}

func smallest() api.Config {
	return api.Config{Nodes: 1, Lines: 1, Words: 1, Sets: 1, Ways: 1, Out: 1, In: 1}
}

func greatest() api.Config {
	return api.Config{Nodes: api.MaxNodes, Lines: api.MaxLines, Words: api.MaxWords, Sets: api.MaxSets, Ways: api.MaxWays, Out: api.MaxRoom, In: api.MaxRoom}
}

func counting(n int) []int {
	list := make([]int, n)
	for i := range list {
		list[i] = i + 1
	}
	return list
}

type number struct {
	name string
	most int
	of   func(c *api.Config) *int
}

func numbers() []number {
	return []number{
		{"Nodes", 6, func(c *api.Config) *int { return &c.Nodes }},
		{"Lines", 8, func(c *api.Config) *int { return &c.Lines }},
		{"Words", 4, func(c *api.Config) *int { return &c.Words }},
		{"Sets", 4, func(c *api.Config) *int { return &c.Sets }},
		{"Ways", 3, func(c *api.Config) *int { return &c.Ways }},
		{"Out", 8, func(c *api.Config) *int { return &c.Out }},
		{"In", 8, func(c *api.Config) *int { return &c.In }},
	}
}

// each calls f with every number of nodes, lines, words and sets that may be,
// without Init, with a part of it, with all of it.
func each(f func(c api.Config)) {
	for nodes := 1; nodes <= api.MaxNodes; nodes++ {
		for lines := 1; lines <= api.MaxLines; lines++ {
			for words := 1; words <= api.MaxWords; words++ {
				for sets := 1; sets <= api.MaxSets; sets++ {
					for _, n := range []int{0, 1, lines*words/2 + 1, lines*words - 1, lines * words} {
						f(api.Config{Nodes: nodes, Lines: lines, Words: words, Sets: sets, Ways: 1, Out: 1, In: 1, Init: counting(n)})
					}
				}
			}
		}
	}
}

// P2.1: configurations that are right.
func TestCheckRight(t *testing.T) {
	for _, c := range []api.Config{some(), smallest(), greatest()} {
		if got := plan.Check(c); got != api.OK {
			t.Errorf("Check(%+v) = %d", c, got)
		}
	}
	each(func(c api.Config) {
		if got := plan.Check(c); got != api.OK {
			t.Errorf("Check(%+v) = %d", c, got)
		}
	})
}

// P2.1, Examples: nothing is no configuration.
func TestCheckNothing(t *testing.T) {
	if got := plan.Check(api.Config{}); got != api.ErrArg {
		t.Errorf("Check of nothing = %d", got)
	}
	if got := plan.Check(api.Config{Init: []int{1}}); got != api.ErrArg {
		t.Errorf("Check of Init alone = %d", got)
	}
}

// P2.1: each number at 1, at its limit, and at all between; one below, one above, and far off.
func TestCheckEachNumber(t *testing.T) {
	for _, from := range []func() api.Config{smallest, greatest} {
		for _, n := range numbers() {
			for _, v := range []int{math.MinInt, math.MinInt + 1, -1 << 32, -9, -1, 0, 1, 2, 3, 4, 5, 6, 7, 8, 9, 10, 1 << 32, 1<<32 + 1, 1 << 62, math.MaxInt} {
				c := from()
				*n.of(&c) = v
				want := api.ErrArg
				if v >= 1 && v <= n.most {
					want = api.OK
				}
				if got := plan.Check(c); got != want {
					t.Errorf("Check with %s %d = %d, want %d", n.name, v, got, want)
				}
			}
		}
	}
}

// P2.1: Init as long as there are words, and one longer.
func TestCheckInit(t *testing.T) {
	each(func(c api.Config) {
		for _, size := range []int{c.Lines*c.Words + 1, c.Lines*c.Words + 2, 100} {
			c.Init = counting(size)
			if got := plan.Check(c); got != api.ErrArg {
				t.Errorf("Check with %d lines of %d words, Init of %d = %d", c.Lines, c.Words, size, got)
			}
		}
	})
}

// P2.1, R6: numbers whose product runs over are refused, as they are by themselves.
func TestCheckProduct(t *testing.T) {
	for _, p := range [][2]int{{1 << 32, 1 << 32}, {-2, -3}, {math.MinInt, -1}, {-1, math.MinInt}, {math.MaxInt, math.MaxInt}, {0, 0}, {1 << 31, 1 << 31}} {
		c := smallest()
		c.Lines, c.Words, c.Init = p[0], p[1], counting(1)
		if got := plan.Check(c); got != api.ErrArg {
			t.Errorf("Check with %d lines of %d words = %d", p[0], p[1], got)
		}
	}
}

// P2.1: what lies behind Init's length is no part of it.
func TestCheckBehindInit(t *testing.T) {
	c := smallest()
	c.Init = counting(9)[:1]
	if got := plan.Check(c); got != api.OK {
		t.Errorf("Check = %d", got)
	}
}

// P2.2: lines go round the nodes, and round the sets, one after the other.
func TestHomeOfAndSetOfGoRound(t *testing.T) {
	each(func(c api.Config) {
		home, set := 0, 0
		for line := range 3 * api.MaxLines {
			if got := plan.HomeOf(c, line); got != home {
				t.Errorf("HomeOf with %d nodes, line %d = %d, want %d", c.Nodes, line, got, home)
			}
			if got := plan.SetOf(c, line); got != set {
				t.Errorf("SetOf with %d sets, line %d = %d, want %d", c.Sets, line, got, set)
			}
			if home++; home == c.Nodes {
				home = 0
			}
			if set++; set == c.Sets {
				set = 0
			}
		}
	})
}

// P2.2: lines below 0, at 0, the last one, past it, far off.
func TestHomeOfAndSetOfEdges(t *testing.T) {
	rows := []struct{ line, home, set int }{
		{math.MinInt, api.None, api.None},
		{-5, api.None, api.None},
		{-4, api.None, api.None},
		{-1, api.None, api.None},
		{0, 0, 0},
		{4, 4, 0},
		{5, 0, 1},
		{6, 1, 2},
		{7, 2, 3},
		{20, 0, 0},
		{math.MaxInt, 2, 3},
	}
	for _, r := range rows {
		if got := plan.HomeOf(some(), r.line); got != r.home {
			t.Errorf("HomeOf line %d = %d, want %d", r.line, got, r.home)
		}
		if got := plan.SetOf(some(), r.line); got != r.set {
			t.Errorf("SetOf line %d = %d, want %d", r.line, got, r.set)
		}
	}
}

// P2.2: below 0 there is no home and no set, whatever a remainder would be there.
func TestHomeOfAndSetOfBelow(t *testing.T) {
	each(func(c api.Config) {
		for _, line := range []int{-1, -2, -c.Nodes, -c.Sets, -c.Nodes * c.Sets, math.MinInt} {
			if home, set := plan.HomeOf(c, line), plan.SetOf(c, line); home != api.None || set != api.None {
				t.Errorf("HomeOf, SetOf with %d nodes, %d sets, line %d = %d, %d", c.Nodes, c.Sets, line, home, set)
			}
		}
	})
}

// P2.2: the addresses are the words of all lines, line by line.
func TestLineOfAndAddrs(t *testing.T) {
	each(func(c api.Config) {
		addr := 0
		for line := range c.Lines {
			for word := range c.Words {
				if l, w := plan.LineOf(c, addr); l != line || w != word {
					t.Errorf("LineOf with %d lines of %d words, %d = %d, %d, want %d, %d", c.Lines, c.Words, addr, l, w, line, word)
				}
				addr++
			}
		}
		if got := plan.Addrs(c); got != addr {
			t.Errorf("Addrs of %d lines of %d words = %d, want %d", c.Lines, c.Words, got, addr)
		}
		for _, a := range []int{addr, addr + 1, addr + c.Words, math.MaxInt, -1, -c.Words, -addr, math.MinInt} {
			if l, w := plan.LineOf(c, a); l != api.None || w != 0 {
				t.Errorf("LineOf with %d lines of %d words, %d = %d, %d", c.Lines, c.Words, a, l, w)
			}
		}
	})
}

// P2.2: there are as many addresses as Lines times Words.
func TestAddrsKnown(t *testing.T) {
	for _, r := range []struct {
		c    api.Config
		want int
	}{{some(), 21}, {smallest(), 1}, {greatest(), 32}} {
		if got := plan.Addrs(r.c); got != r.want {
			t.Errorf("Addrs(%+v) = %d, want %d", r.c, got, r.want)
		}
	}
}

// P2.2: a line's words are those at its addresses; 0 where Init lacks them.
func TestWordsAreThoseOfInit(t *testing.T) {
	each(func(c api.Config) {
		all := make([]int, c.Lines*c.Words)
		copy(all, c.Init)
		told := []int{}
		for line := range c.Lines {
			words := plan.Words(c, line)
			if len(words) != c.Words {
				t.Fatalf("Words(%+v, %d) = %v", c, line, words)
			}
			told = append(told, words...)
		}
		if !slices.Equal(told, all) {
			t.Errorf("Words(%+v) in all = %v, want %v", c, told, all)
		}
	})
}

// P2.2: Init ends within a line, and there is none of further lines; no such line.
func TestWordsEdges(t *testing.T) {
	rows := []struct {
		line int
		want []int
	}{
		{0, []int{10, -11, 12}},
		{1, []int{13, 14, math.MinInt}},
		{2, []int{math.MaxInt, 0, 0}},
		{3, []int{0, 0, 0}},
		{6, []int{0, 0, 0}},
		{7, nil},
		{8, nil},
		{-1, nil},
		{math.MinInt, nil},
		{math.MaxInt, nil},
		{1 << 62, nil},
	}
	for _, r := range rows {
		if got := plan.Words(some(), r.line); !slices.Equal(got, r.want) {
			t.Errorf("Words of line %d = %v, want %v", r.line, got, r.want)
		}
	}
}

// R4: words are new memory; Init is neither changed nor read behind its length; nil is as the empty list.
func TestWordsMemory(t *testing.T) {
	c := some()
	memory := append(slices.Clone(c.Init), 77, 78, 79)
	c.Init = memory[:7]
	if got := plan.Words(c, 2); !slices.Equal(got, []int{math.MaxInt, 0, 0}) {
		t.Errorf("Words of line 2 = %v", got)
	}
	for line := range c.Lines {
		words := plan.Words(c, line)
		_ = append(words, 99)
		for i := range words {
			words[i] = 99
		}
	}
	if want := append(some().Init, 77, 78, 79); !slices.Equal(memory, want) {
		t.Errorf("Init's memory is %v, want %v", memory, want)
	}
	if got := plan.Words(c, 0); !slices.Equal(got, []int{10, -11, 12}) {
		t.Errorf("Words of line 0 = %v", got)
	}
	empty, none := c, c
	empty.Init, none.Init = []int{}, nil
	for line := -1; line <= c.Lines; line++ {
		if a, b := plan.Words(empty, line), plan.Words(none, line); !slices.Equal(a, b) {
			t.Errorf("Words of line %d = %v, %v", line, a, b)
		}
	}
	if plan.Check(empty) != api.OK || plan.Check(none) != api.OK {
		t.Error("Check without Init")
	}
}

func loads(n int) []api.Op {
	list := make([]api.Op, n)
	for i := range list {
		list[i].Kind = api.Load
	}
	return list
}

// P2.2: as many programs as there are nodes; one fewer, one more, none.
func TestOpsPrograms(t *testing.T) {
	each(func(c api.Config) {
		for n := range api.MaxNodes + 3 {
			want := api.ErrArg
			if n == c.Nodes {
				want = api.OK
			}
			if got := plan.Ops(c, make([][]api.Op, n)...); got != want {
				t.Errorf("Ops of %d programs for %d nodes = %d, want %d", n, c.Nodes, got, want)
			}
		}
	})
}

// P2.2, Ways: programs one by one, none, or a list of them.
func TestOpsIsVariadic(t *testing.T) {
	c := smallest()
	if got := plan.Ops(c); got != api.ErrArg {
		t.Errorf("Ops of no program = %d", got)
	}
	if got := plan.Ops(c, nil...); got != api.ErrArg {
		t.Errorf("Ops of a list of no programs = %d", got)
	}
	if got := plan.Ops(c, nil); got != api.OK {
		t.Errorf("Ops of a program of nothing = %d", got)
	}
	c.Nodes = 2
	if got := plan.Ops(c, loads(1), []api.Op{}); got != api.OK {
		t.Errorf("Ops of two programs = %d", got)
	}
}

// P2.2: MaxOps of each program, not of all of them; one more, in any of them.
func TestOpsMost(t *testing.T) {
	c := some()
	for at := range c.Nodes {
		programs := make([][]api.Op, c.Nodes)
		for i := range programs {
			programs[i] = loads(24)
		}
		if got := plan.Ops(c, programs...); got != api.OK {
			t.Errorf("Ops of %d programs of 24 = %d", c.Nodes, got)
		}
		for _, n := range []int{25, 26, 1000} {
			programs[at] = loads(n)
			if got := plan.Ops(c, programs...); got != api.ErrArg {
				t.Errorf("Ops with %d operations of node %d = %d", n, at, got)
			}
		}
	}
}

// right tells by the document's words, one after the other, whether an operation is one.
func right(c api.Config, op api.Op) bool {
	kinds := []int{1, 2, 3, 4} // Load, Store, Add, Flush
	if !slices.Contains(kinds, op.Kind) || op.Addr < 0 || op.Addr > c.Lines*c.Words-1 {
		return false
	}
	alone := op.Kind == 1 || op.Kind == 4
	return !(alone && op.Value != 0)
}

// P2.2: operations of each kind, and of none; at each edge of the addresses; with and without a value.
func TestOpsEachOperation(t *testing.T) {
	c := some()
	for _, kind := range []int{math.MinInt, -4, -3, -2, -1, 0, 1, 2, 3, 4, 5, 6, 7, 8, 9, 1<<32 + 1, math.MaxInt} {
		for _, addr := range []int{math.MinInt, -21, -1, 0, 1, 2, 3, 7, 20, 21, 22, 32, 1<<32 + 1, math.MaxInt} {
			for _, value := range []int{math.MinInt, -1, 0, 1, 5, 1 << 32, math.MaxInt} {
				op := api.Op{Kind: kind, Addr: addr, Value: value}
				want := api.ErrArg
				if right(c, op) {
					want = api.OK
				}
				if got := plan.Ops(c, nil, nil, []api.Op{op}, nil, nil); got != want {
					t.Errorf("Ops of %+v = %d, want %d", op, got, want)
				}
			}
		}
	}
}

// P2.2: the addresses of the configuration at hand count, not those of another.
func TestOpsAddrsOfEach(t *testing.T) {
	each(func(c api.Config) {
		programs := make([][]api.Op, c.Nodes)
		for _, addr := range []int{-1, 0, c.Lines*c.Words - 1, c.Lines * c.Words} {
			for kind := api.Load; kind <= api.Flush; kind++ {
				op := api.Op{Kind: kind, Addr: addr}
				programs[c.Nodes-1] = []api.Op{op}
				want := api.ErrArg
				if right(c, op) {
					want = api.OK
				}
				if got := plan.Ops(c, programs...); got != want {
					t.Errorf("Ops with %d lines of %d words of %+v = %d, want %d", c.Lines, c.Words, op, got, want)
				}
			}
		}
	})
}

// P2.2: one wrong operation is found, wherever it stands.
func TestOpsFindsTheWrongOne(t *testing.T) {
	c := some()
	wrongs := []api.Op{{}, {Kind: 5}, {Kind: api.Store, Addr: 21}, {Kind: api.Add, Addr: -1}, {Kind: api.Load, Value: 1}, {Kind: api.Flush, Value: -1}}
	for _, wrong := range wrongs {
		for node := range c.Nodes {
			for _, at := range []int{0, 1, 12, 22, 23} {
				programs := make([][]api.Op, c.Nodes)
				for i := range programs {
					programs[i] = loads(24)
				}
				programs[node][at] = wrong
				if got := plan.Ops(c, programs...); got != api.ErrArg {
					t.Errorf("Ops with %+v at %d of node %d = %d", wrong, at, node, got)
				}
			}
		}
	}
}

// R4: programs are neither changed nor read behind their length.
func TestOpsMemory(t *testing.T) {
	c := smallest()
	memory := append(loads(2), api.Op{Kind: 9, Addr: -1, Value: 3})
	before := slices.Clone(memory)
	if got := plan.Ops(c, memory[:2]); got != api.OK {
		t.Errorf("Ops = %d", got)
	}
	if got := plan.Ops(c, memory); got != api.ErrArg {
		t.Errorf("Ops with the wrong one = %d", got)
	}
	if got := plan.Ops(c, append(loads(24), memory...)[:24]); got != api.OK {
		t.Errorf("Ops of 24 with more behind them = %d", got)
	}
	if !slices.Equal(memory, before) {
		t.Errorf("the program is %v, was %v", memory, before)
	}
	programs := [][]api.Op{loads(1), {{Kind: 9}}}
	if got := plan.Ops(c, programs[:1]...); got != api.OK {
		t.Errorf("Ops of one program with another behind it = %d", got)
	}
}

// R5: a call's answer does not hang on the calls ahead of it.
func TestAnswersStay(t *testing.T) {
	c := some()
	for range 3 {
		if plan.Check(api.Config{}) != api.ErrArg || plan.Check(c) != api.OK || plan.Ops(c) != api.ErrArg {
			t.Error("Check, Ops")
		}
		if plan.HomeOf(c, 6) != 1 || plan.HomeOf(c, -1) != api.None || plan.SetOf(c, 6) != 2 || plan.Addrs(c) != 21 {
			t.Error("HomeOf, SetOf, Addrs")
		}
		if line, word := plan.LineOf(c, 20); line != 6 || word != 2 {
			t.Errorf("LineOf = %d, %d", line, word)
		}
	}
}
