package cache_test

import (
	"math"
	"slices"
	"testing"

	"chaplet/api"
	"chaplet/cache"
	"chaplet/entry"
)

// odd are numbers at the edges: of lines, of sets, of ways, of what fewer digits can tell.
var odd = []int{0, 1, 2, 3, -1, -2, -3, api.MaxLines - 1, api.MaxLines, 255, 256, 1<<16 - 1, 1 << 31, 1<<32 - 1, 1 << 32, -1 << 32, math.MinInt, math.MinInt + 1, math.MaxInt - 1, math.MaxInt}

// numbered is an entry of the line that no other number's is like; its Used is
// one that a cache has to overwrite.
func numbered(line, n int) entry.Entry {
	e := entry.Entry{Links: entry.Links{Fwd: n % 7, Back: n%5 - 1}, Line: line, Used: 1000 - n, Dirty: n%2 == 1}
	for i := range n % 6 {
		e.Data = append(e.Data, 10*n+i)
	}
	return e
}

// alike takes nil and empty Data for the same (R4).
func alike(a, b entry.Entry) bool {
	return a.Links == b.Links && a.Line == b.Line && a.Used == b.Used && a.Dirty == b.Dirty && slices.Equal(a.Data, b.Data)
}

// apart is e with Data of its own.
func apart(e entry.Entry) entry.Entry {
	e.Data = slices.Clone(e.Data)
	return e
}

// spoil writes into all of the numbers' memory, what lies behind their length too.
func spoil(numbers []int) {
	whole := numbers[:cap(numbers)]
	for i := range whole {
		whole[i] = -777 - i
	}
}

// within is Data with other words ahead of them and behind their length, in one memory.
func within(words ...int) (data, memory []int) {
	memory = append(append([]int{41, 42}, words...), 43, 44, 45)
	return memory[2 : 2+len(words)], memory
}

// pair is a cache beside what it is held against: a plain list of entries, in
// the order in which they came, in which everything is sought.
type pair struct {
	c                 *cache.Cache
	sets, ways, clock int
	list              []entry.Entry
}

func newPair(sets, ways int) *pair {
	b := &pair{c: cache.New(sets, ways), sets: sets, ways: ways}
	if sets < 1 {
		b.sets = 1
	}
	if ways < 1 {
		b.ways = 1
	}
	return b
}

func (b *pair) at(line int) int {
	return slices.IndexFunc(b.list, func(e entry.Entry) bool { return e.Line == line })
}

// set is all that is in the line's set.
func (b *pair) set(line int) []entry.Entry {
	in := []entry.Entry{}
	for _, e := range b.list {
		if line >= 0 && e.Line%b.sets == line%b.sets {
			in = append(in, e)
		}
	}
	return in
}

func (b *pair) full(line int) bool {
	return line >= 0 && b.at(line) < 0 && len(b.set(line)) >= b.ways
}

func (b *pair) victim(line int) (int, bool) {
	in := b.set(line)
	if len(in) == 0 {
		return 0, false
	}
	least := in[0]
	for _, e := range in {
		if e.Used < least.Used {
			least = e
		}
	}
	return least.Line, true
}

// lines are rising: the least is taken again and again.
func (b *pair) lines() []int {
	rising, left := []int{}, slices.Clone(b.list)
	for len(left) > 0 {
		least := 0
		for i, e := range left {
			if e.Line < left[least].Line {
				least = i
			}
		}
		rising = append(rising, left[least].Line)
		left = slices.Delete(left, least, least+1)
	}
	return rising
}

// probes are the lines that are asked of: those there, those near, and odd ones.
func (b *pair) probes() []int {
	probes := slices.Clone(odd)
	for line := range 10 {
		probes = append(probes, line)
	}
	for _, e := range b.list {
		probes = append(probes, e.Line, -e.Line, e.Line+1, e.Line+b.sets)
	}
	return probes
}

// must asks all that a cache tells.
func (b *pair) must(t *testing.T) {
	t.Helper()
	if got := b.c.Len(); got != len(b.list) {
		t.Fatalf("Len %d, want %d", got, len(b.list))
	}
	if got, want := b.c.Lines(), b.lines(); !slices.Equal(got, want) {
		t.Fatalf("Lines %v, want %v", got, want)
	}
	for _, line := range b.probes() {
		b.mustLine(t, line)
	}
}

func (b *pair) mustLine(t *testing.T, line int) {
	t.Helper()
	e, ok := b.c.Find(line)
	b.mustOne(t, "Find", line, e, ok)
	if got, want := b.c.Full(line), b.full(line); got != want {
		t.Fatalf("%d sets, %d ways, %v: Full(%d) %v", b.sets, b.ways, b.lines(), line, got)
	}
	v, ok := b.c.Victim(line)
	if want, has := b.victim(line); v != want || ok != has {
		t.Fatalf("%d sets, %d ways, %v: Victim(%d) %d, %v; want %d, %v", b.sets, b.ways, b.list, line, v, ok, want, has)
	}
}

// mustOne holds an entry that a call told against the one of that line, or against none.
func (b *pair) mustOne(t *testing.T, call string, line int, e entry.Entry, ok bool) {
	t.Helper()
	at := b.at(line)
	if at < 0 {
		if ok || !alike(e, entry.Entry{}) {
			t.Fatalf("%s(%d), which is not there: %+v, %v", call, line, e, ok)
		}
		return
	}
	if !ok || !alike(e, b.list[at]) {
		t.Fatalf("%s(%d): %+v, %v; want %+v", call, line, e, ok, b.list[at])
	}
}

// wanted is what a Put has to answer; it does the same to the list.
func (b *pair) wanted(e entry.Entry) api.Errno {
	e = apart(e)
	at := b.at(e.Line)
	switch {
	case e.Line < 0:
		return api.ErrArg
	case at >= 0:
		e.Used = b.list[at].Used
		b.list[at] = e
	case b.full(e.Line):
		return api.ErrFull
	default:
		b.clock++
		e.Used = b.clock
		b.list = append(b.list, e)
	}
	return api.OK
}

func (b *pair) put(t *testing.T, e entry.Entry) api.Errno {
	t.Helper()
	want := b.wanted(e)
	if got := b.c.Put(e); got != want {
		t.Fatalf("%d sets, %d ways, %v: Put of %d: %d, want %d", b.sets, b.ways, b.lines(), e.Line, got, want)
	}
	b.must(t)
	return want
}

func (b *pair) drop(t *testing.T, line int) {
	t.Helper()
	e, ok := b.c.Drop(line)
	b.mustOne(t, "Drop", line, e, ok)
	if at := b.at(line); at >= 0 {
		b.list = slices.Delete(b.list, at, at+1)
	}
	b.must(t)
}

func (b *pair) touch(t *testing.T, line int) {
	t.Helper()
	at := b.at(line)
	if got := b.c.Touch(line); got != (at >= 0) {
		t.Fatalf("%v: Touch(%d) %v", b.lines(), line, got)
	}
	if at >= 0 {
		b.clock++
		b.list[at].Used = b.clock
	}
	b.must(t)
}

func (b *pair) mustUsed(t *testing.T, line, want int) {
	t.Helper()
	if e, ok := b.c.Find(line); !ok || e.Used != want {
		t.Fatalf("Used of %d: %d, %v; want %d", line, e.Used, ok, want)
	}
}

func mustVictim(t *testing.T, c *cache.Cache, line, want int) {
	t.Helper()
	if v, ok := c.Victim(line); v != want || !ok {
		t.Fatalf("Victim(%d): %d, %v; want %d", line, v, ok, want)
	}
}

// P8.1, the example: Lines of a new one are none; nothing is in it, whatever its sets and ways.
func TestNewIsEmpty(t *testing.T) {
	for _, sets := range odd {
		for _, ways := range odd {
			b := newPair(sets, ways)
			if len(b.c.Lines()) != 0 {
				t.Fatal(sets, ways, b.c.Lines())
			}
			b.must(t)
			for _, line := range odd {
				b.drop(t, line)
				b.touch(t, line)
			}
		}
	}
}

// P8.1: a line by hand, from its Put to its Drop, and beside it others.
func TestByHand(t *testing.T) {
	c := cache.New(3, 2)
	steps := []api.Errno{c.Put(entry.New(5, 1, 2, true, 7, 8)), c.Put(entry.New(2, 3, 4, false, 9)), c.Put(entry.New(8, 0, 0, false)), c.Put(entry.New(6, 0, 0, false))}
	if !slices.Equal(steps, []api.Errno{api.OK, api.OK, api.ErrFull, api.OK}) {
		t.Fatal(steps)
	}
	if !slices.Equal(c.Lines(), []int{2, 5, 6}) || c.Len() != 3 {
		t.Fatal(c.Lines(), c.Len())
	}
	if !c.Full(8) || !c.Full(11) || c.Full(2) || c.Full(5) || c.Full(0) || c.Full(1) || c.Full(6) {
		t.Fatal("Full")
	}
	mustVictim(t, c, 8, 5)
	mustVictim(t, c, 0, 6)
	if v, ok := c.Victim(1); v != 0 || ok {
		t.Fatal("Victim of an empty set", v, ok)
	}
	if !c.Touch(5) || c.Touch(8) || c.Touch(1) {
		t.Fatal("Touch")
	}
	mustVictim(t, c, 8, 2)
	if e, ok := c.Find(5); !ok || !alike(e, entry.Entry{Links: entry.Links{Fwd: 1, Back: 2}, Line: 5, Used: 4, Dirty: true, Data: []int{7, 8}}) {
		t.Fatal(e, ok)
	}
	if e, ok := c.Drop(2); !ok || !alike(e, entry.Entry{Links: entry.Links{Fwd: 3, Back: 4}, Line: 2, Used: 2, Data: []int{9}}) {
		t.Fatal(e, ok)
	}
	if e, ok := c.Drop(2); ok || !alike(e, entry.Entry{}) {
		t.Fatal(e, ok)
	}
	if c.Full(8) || c.Len() != 2 || !slices.Equal(c.Lines(), []int{5, 6}) {
		t.Fatal("what is dropped is there", c.Lines(), c.Len())
	}
}

// P8.1: sets and ways below 1 are 1.
func TestBelowOne(t *testing.T) {
	for _, sets := range []int{1, 0, -1, -2, -4, -1 << 32, math.MinInt + 1, math.MinInt} {
		for _, ways := range []int{1, 0, -1, -3, -4, -1 << 32, math.MinInt + 1, math.MinInt} {
			c := cache.New(sets, ways)
			if c.Full(4) || c.Put(numbered(4, 1)) != api.OK {
				t.Fatal(sets, ways, "has no way at all")
			}
			for _, line := range []int{0, 1, 2, 3, 5, 8, math.MaxInt} {
				if !c.Full(line) || c.Put(numbered(line, 2)) != api.ErrFull {
					t.Fatal(sets, ways, line, "is in another set, or has another way")
				}
				mustVictim(t, c, line, 4)
			}
			if c.Full(4) || c.Put(numbered(4, 3)) != api.OK {
				t.Fatal(sets, ways, "the line that is there")
			}
		}
	}
}

// P8.1: two lines are in one set where their remainders by sets are the same.
func TestSameSet(t *testing.T) {
	for sets := 1; sets <= 9; sets++ {
		for line := range 3 * sets {
			b := newPair(sets, 1)
			b.put(t, numbered(line, 1))
			for other := range 3 * sets {
				if want := other != line && (other-line)%sets == 0; b.c.Full(other) != want {
					t.Fatalf("%d sets, %d there: Full(%d) %v", sets, line, other, !want)
				}
			}
		}
	}
}

// P8.1: a set takes so many lines as there are ways, and no more, however full the others are.
func TestFill(t *testing.T) {
	for sets := 1; sets <= api.MaxSets+1; sets++ {
		for ways := 1; ways <= api.MaxWays+2; ways++ {
			b := newPair(sets, ways)
			for line := range sets * (ways + 2) {
				want := api.OK
				if line >= sets*ways {
					want = api.ErrFull
				}
				if got := b.put(t, numbered(line, line)); got != want {
					t.Fatalf("%d sets, %d ways, line %d: %d", sets, ways, line, got)
				}
			}
			if b.c.Len() != sets*ways {
				t.Fatal(sets, ways, b.c.Len())
			}
		}
	}
}

// P8.1: a set with one way left takes one more line; with none, none, till one is dropped.
func TestOneWayLeft(t *testing.T) {
	for ways := 1; ways <= 4; ways++ {
		b := newPair(2, ways)
		for i := range ways - 1 {
			b.put(t, numbered(2*i+1, i))
		}
		for i := range 5 {
			if b.c.Full(21) || b.put(t, numbered(21, i)) != api.OK {
				t.Fatal(ways, "no way left")
			}
			if !b.c.Full(23) || b.put(t, numbered(23, i)) != api.ErrFull {
				t.Fatal(ways, "a way left")
			}
			if b.c.Full(21) || b.c.Full(20) {
				t.Fatal(ways, "Full of what is there, or of the other set")
			}
			b.drop(t, 21)
		}
	}
}

// P8.1: an entry is there as it was put, each field of it, but its Used, which is the clock's whatever it was.
func TestPutKeepsEachField(t *testing.T) {
	for _, n := range odd {
		for _, dirty := range []bool{false, true} {
			b := newPair(1, 6)
			b.put(t, entry.Entry{Links: entry.Links{Fwd: n, Back: 2}, Line: 3, Used: 4, Dirty: dirty, Data: []int{5}})
			b.put(t, entry.Entry{Links: entry.Links{Fwd: 1, Back: n}, Line: 4, Used: 4, Dirty: dirty, Data: []int{6, 7}})
			b.put(t, entry.Entry{Links: entry.Links{Fwd: 1, Back: 2}, Line: n, Used: 4, Dirty: dirty, Data: []int{8}})
			b.put(t, entry.Entry{Links: entry.Links{Fwd: 1, Back: 2}, Line: 5, Used: n, Dirty: dirty})
			b.put(t, entry.Entry{Links: entry.Links{Fwd: 1, Back: 2}, Line: 6, Used: 4, Dirty: dirty, Data: []int{n, n, n, n}})
			for _, line := range []int{3, 4, n, 5, 6} {
				b.touch(t, line)
			}
			for _, line := range []int{3, 4, n, 5, 6} {
				b.drop(t, line)
			}
		}
	}
}

// P8.1: of each number of words, those of a line and more.
func TestCounts(t *testing.T) {
	b := newPair(1, 20)
	for count := range 10 {
		words := make([]int, count)
		for i := range words {
			words[i] = 10*count + i + 1
		}
		b.put(t, entry.New(count, 0, 1, true, words...))
	}
	for count := range 10 {
		b.touch(t, count)
		b.drop(t, count)
	}
}

// P8.1: the clock counts from 1 on, Puts and Touches alike.
func TestClock(t *testing.T) {
	b := newPair(2, 3)
	for i, line := range []int{4, 1, 0, 3, 6, 5} {
		b.put(t, numbered(line, i))
		b.mustUsed(t, line, i+1)
	}
	for i, line := range []int{0, 0, 5, 4, 0, 1} {
		b.touch(t, line)
		b.mustUsed(t, line, i+7)
	}
	b.drop(t, 0)
	b.put(t, numbered(8, 1))
	b.mustUsed(t, 8, 13)
}

// P8.1, R2: what is refused, what is there already, and what only asks, is not counted.
func TestClockStands(t *testing.T) {
	for name, call := range map[string]func(b *pair){
		"nothing":          func(b *pair) {},
		"Put, ErrArg":      func(b *pair) { b.c.Put(numbered(-1, 5)) },
		"Put, ErrFull":     func(b *pair) { b.c.Put(numbered(4, 5)) },
		"Put, there":       func(b *pair) { b.c.Put(numbered(2, 2)) },
		"Touch, not there": func(b *pair) { b.c.Touch(4) },
		"Touch, set empty": func(b *pair) { b.c.Touch(1) },
		"Touch, below 0":   func(b *pair) { b.c.Touch(-2) },
		"Drop, not there":  func(b *pair) { b.c.Drop(4) },
		"Drop, below 0":    func(b *pair) { b.c.Drop(-2) },
		"Find":             func(b *pair) { b.c.Find(2) },
		"Find, not there":  func(b *pair) { b.c.Find(4) },
		"Full":             func(b *pair) { b.c.Full(4) },
		"Victim":           func(b *pair) { b.c.Victim(4) },
		"Victim, none":     func(b *pair) { b.c.Victim(1) },
		"Lines":            func(b *pair) { b.c.Lines() },
		"Len":              func(b *pair) { b.c.Len() },
	} {
		t.Run(name, func(t *testing.T) {
			b := newPair(2, 2)
			b.put(t, numbered(0, 1))
			b.put(t, numbered(2, 2))
			for range 3 {
				call(b)
				b.must(t)
			}
			b.touch(t, 0)
			b.mustUsed(t, 0, 3)
			call(b)
			b.put(t, numbered(3, 3))
			b.mustUsed(t, 3, 4)
		})
	}
}

// P8.1: a Drop is not counted, and gives no number back.
func TestDropIsNotCounted(t *testing.T) {
	b := newPair(1, 2)
	for n := range 10 {
		b.put(t, numbered(n, n))
		b.mustUsed(t, n, n+1)
		b.drop(t, n)
	}
}

// P8.1: a line that is put again: its entry is the new one, its Used stays, and so does whose turn it is to go; a full set is no hindrance.
func TestPutAgain(t *testing.T) {
	for ways := 1; ways <= 4; ways++ {
		b := newPair(1, ways)
		for line := range ways {
			b.put(t, numbered(line, line))
		}
		for n := range 5 * ways {
			line := n % ways
			if b.put(t, numbered(line, n+3)) != api.OK {
				t.Fatal(ways, line)
			}
			b.mustUsed(t, line, line+1)
			mustVictim(t, b.c, line, 0)
		}
		b.touch(t, 0)
		b.mustUsed(t, 0, ways+1)
		b.put(t, numbered(0, 40))
		b.mustUsed(t, 0, ways+1)
		mustVictim(t, b.c, 0, 1%ways)
	}
}

// P8.1: the entry that Find told comes back by Put with what was changed of it, but its Used.
func TestFindAndPutBack(t *testing.T) {
	b := newPair(2, 2)
	b.put(t, entry.New(3, 1, 2, true, 5, 6))
	b.put(t, entry.New(1, 1, 2, true, 5, 6))
	for n := range 6 {
		e, _ := b.c.Find(3)
		e.Write(1, 70+n)
		e.SetFwd(n)
		e.SetBack(-n)
		e.Used = 90 - n
		e.Dirty = n != 4
		b.put(t, e)
		b.mustUsed(t, 3, 1)
	}
	e, _ := b.c.Find(3)
	e.Data = nil
	b.put(t, e)
}

// P8.1: a line that was dropped and is put again is a new one.
func TestPutBehindDrop(t *testing.T) {
	b := newPair(2, 2)
	b.put(t, numbered(1, 1))
	b.put(t, numbered(3, 2))
	b.drop(t, 1)
	b.put(t, numbered(1, 4))
	b.mustUsed(t, 1, 3)
	mustVictim(t, b.c, 5, 3)
}

// P8.1, R8: a line below 0 is ErrArg at Put, be its set full or not; it is none at all other calls.
func TestBelowZero(t *testing.T) {
	below := []int{-1, -2, -3, -4, -5, -6, -256, -1 << 32, math.MinInt + 1, math.MinInt}
	for sets := 1; sets <= 4; sets++ {
		for ways := 1; ways <= 3; ways++ {
			b := newPair(sets, ways)
			for fill := range sets*ways + 1 {
				for _, line := range below {
					if b.put(t, numbered(line, 3)) != api.ErrArg {
						t.Fatal(sets, ways, line)
					}
					b.drop(t, line)
					b.touch(t, line)
					v, has := b.c.Victim(line)
					if b.c.Full(line) || has || v != 0 {
						t.Fatal(sets, ways, line, v, has)
					}
				}
				b.put(t, numbered(fill, fill))
			}
		}
	}
}

// P8.1: lines that are not there, in a set that has others, and in one that has none: false, and nothing has changed.
func TestNotThere(t *testing.T) {
	b := newPair(3, 2)
	b.put(t, numbered(3, 1))
	b.put(t, numbered(6, 2))
	b.put(t, numbered(4, 3))
	for _, line := range []int{0, 9, 1, 7, 2, 5, 3 + 1<<32, math.MaxInt} {
		if b.c.Touch(line) {
			t.Fatal("Touch", line)
		}
		b.must(t)
		if e, ok := b.c.Drop(line); ok || !alike(e, entry.Entry{}) {
			t.Fatal("Drop", line, e, ok)
		}
		b.must(t)
		if e, ok := b.c.Find(line); ok || !alike(e, entry.Entry{}) {
			t.Fatal("Find", line, e, ok)
		}
	}
}

// P8.1: Full of a line hangs on its set alone, and on whether it is there.
func TestFullOfWhatIsThere(t *testing.T) {
	b := newPair(2, 2)
	for _, line := range []int{2, 4, 1} {
		b.put(t, numbered(line, line))
	}
	for line, want := range []bool{true, false, false, false, false, false, true, false, true} {
		if b.c.Full(line) != want {
			t.Error(line, !want)
		}
	}
	b.drop(t, 4)
	if b.c.Full(0) || b.c.Full(4) {
		t.Error("Full, with a way left")
	}
}

// P8.1: who was neither put nor touched for the longest time is the victim, one after the other, till there is none.
func TestVictims(t *testing.T) {
	for _, touches := range [][]int{{}, {0}, {4}, {2, 0}, {0, 1, 2, 3, 4}, {4, 3, 2, 1, 0}, {1, 1, 1}, {0, 3, 0, 3, 1}, {2, 4, 2, 0, 4, 2}} {
		b := newPair(1, 5)
		turn := []int{3, 0, 4, 1, 2}
		for _, line := range turn {
			b.put(t, numbered(line, line))
		}
		for _, line := range touches {
			b.touch(t, line)
			turn = append(slices.DeleteFunc(turn, func(l int) bool { return l == line }), line)
		}
		for _, line := range turn {
			mustVictim(t, b.c, 77, line)
			mustVictim(t, b.c, line, line)
			b.drop(t, line)
		}
		if v, ok := b.c.Victim(77); ok || v != 0 {
			t.Fatal(touches, v, ok)
		}
	}
}

// P8.1: a victim is of the line's set, be there a way left or not, though others were used earlier.
func TestVictimOfTheSet(t *testing.T) {
	b := newPair(3, 3)
	for _, line := range []int{0, 5, 4, 3, 2, 1} {
		b.put(t, numbered(line, line))
	}
	for line, want := range []int{0, 4, 5, 0, 4, 5, 0, 4, 5} {
		mustVictim(t, b.c, line, want)
	}
	b.drop(t, 4)
	b.drop(t, 1)
	if v, ok := b.c.Victim(1); ok || v != 0 {
		t.Fatal(v, ok)
	}
	mustVictim(t, b.c, 3, 0)
	mustVictim(t, b.c, 2, 5)
}

// P8.1: Lines are rising, in whatever order they came, and went.
func TestLinesRise(t *testing.T) {
	for _, came := range [][]int{{}, {7}, {0, 1, 2, 3}, {3, 2, 1, 0}, {9, 2, 10, 1, 100, 0, 11}, {math.MaxInt, 0, 1 << 32, 5, 1<<32 - 1, math.MaxInt - 1}} {
		b := newPair(4, 9)
		for i, line := range came {
			b.put(t, numbered(line, i))
			want := slices.Clone(came[:i+1])
			slices.Sort(want)
			if got := b.c.Lines(); !slices.Equal(got, want) {
				t.Fatal(got, want)
			}
			b.touch(t, came[i/2])
		}
		for i, line := range came {
			b.drop(t, line)
			want := slices.Clone(came[i+1:])
			slices.Sort(want)
			if got := b.c.Lines(); !slices.Equal(got, want) {
				t.Fatal(got, want)
			}
		}
	}
}

// P8.1: lines, sets and ways far past a machine's: nothing is cut, and memory does not go by sets and ways.
func TestFarOff(t *testing.T) {
	great := []int{1, 2, 255, 256, 1 << 20, 1<<32 - 1, 1 << 32, math.MaxInt - 1, math.MaxInt}
	for _, sets := range great {
		for _, ways := range great {
			b := newPair(sets, ways)
			for i, line := range great {
				b.put(t, numbered(line, i))
			}
			for _, line := range great {
				b.touch(t, line)
			}
			for _, line := range great {
				b.drop(t, line)
			}
		}
	}
}

// turn does one of three things to one of so many lines, by a number.
func (b *pair) turn(t *testing.T, number, lines, n int) {
	t.Helper()
	line := number / 3 % lines
	switch number % 3 {
	case 0:
		b.put(t, numbered(line, n))
	case 1:
		b.drop(t, line)
	default:
		b.touch(t, line)
	}
}

// P8.1: each way of Puts, Drops and Touches of three lines that has so many turns.
func TestEachTurn(t *testing.T) {
	const lines, turns = 3, 4
	ways := 1
	for range turns {
		ways *= 3 * lines
	}
	for _, shape := range [][2]int{{1, 1}, {1, 2}, {1, 3}, {2, 1}, {3, 1}} {
		for way := range ways {
			b := newPair(shape[0], shape[1])
			for i := range turns {
				b.turn(t, way, lines, i+1)
				way /= 3 * lines
			}
		}
	}
}

// P8.1: long ways through caches of each number of sets and ways that a machine may have.
func TestManyTurns(t *testing.T) {
	digits := uint32(9)
	below := func(n int) int {
		digits = digits*1664525 + 1013904223
		return int(digits>>8) % n
	}
	for sets := 1; sets <= api.MaxSets; sets++ {
		for ways := 1; ways <= api.MaxWays; ways++ {
			b := newPair(sets, ways)
			lines := sets*ways + 4
			for n := range 400 {
				if n/50%2 == 0 && below(2) == 0 {
					b.put(t, numbered(below(lines), n))
				} else {
					b.turn(t, below(3*lines), lines, n)
				}
			}
		}
	}
}

// P8.1: much, in one set and in many; the victims go in the order in which they came.
func TestMuch(t *testing.T) {
	const much = 50000
	for _, sets := range []int{1, 7, much, math.MaxInt} {
		c := cache.New(sets, much)
		for n := range much {
			if c.Put(entry.New(much-1-n, 0, 0, false, n)) != api.OK || c.Len() != n+1 {
				t.Fatal(sets, n, c.Len())
			}
		}
		lines := c.Lines()
		for n := range much {
			if lines[n] != n {
				t.Fatal(sets, n, lines[n])
			}
		}
		for n := range much {
			line, ok := c.Victim(much - 1 - n)
			if !ok || line != much-1-n {
				t.Fatal(sets, n, line, ok)
			}
			if e, ok := c.Drop(line); !ok || e.Used != n+1 || e.Word(0) != n {
				t.Fatal(sets, n, e, ok)
			}
		}
		if c.Len() != 0 || len(c.Lines()) != 0 {
			t.Fatal(sets, c.Len())
		}
	}
}

// R5: two caches know nothing of each other.
func TestTwoCaches(t *testing.T) {
	one, other := newPair(2, 2), newPair(1, 3)
	for n := range 60 {
		one.turn(t, 7*n+n/9, 5, n)
		other.must(t)
		other.turn(t, 5*n+n/4, 5, n+9)
		one.must(t)
	}
}

// R4: what is put is not changed, and not what lies behind its length, whatever Put answers, and whatever comes behind it.
func TestPutLeavesItsArgument(t *testing.T) {
	for words := range 5 {
		data, memory := within([]int{1, 2, 3, 4}[:words]...)
		before := slices.Clone(memory)
		c := cache.New(1, 2)
		for _, line := range []int{1, 2, 3, 1, -1} {
			e := entry.Entry{Links: entry.Links{Fwd: 4, Back: 5}, Line: line, Used: 66, Dirty: true, Data: data}
			c.Put(e)
			if !alike(e, entry.Entry{Links: entry.Links{Fwd: 4, Back: 5}, Line: line, Used: 66, Dirty: true, Data: before[2 : 2+words]}) {
				t.Fatal("Put changed", e)
			}
		}
		c.Touch(1)
		found, _ := c.Find(1)
		spoil(found.Data)
		dropped, _ := c.Drop(2)
		spoil(dropped.Data)
		if !slices.Equal(memory, before) {
			t.Errorf("%d words: %v, were %v", words, memory, before)
		}
	}
}

// R4: what is put is not kept: its Data are written into behind Put, of a new line and of one that is there.
func TestPutKeepsNothing(t *testing.T) {
	b := newPair(2, 3)
	for n := range 12 {
		data, memory := within([]int{n + 1, n + 2, n + 3, n + 4}[:n%5]...)
		b.put(t, entry.Entry{Line: n % 4, Dirty: true, Data: data})
		spoil(memory)
		b.must(t)
	}
	for line := range 4 {
		b.drop(t, line)
	}
}

// R4: two lines that were put with the same Data have memory of their own.
func TestSameDataTwice(t *testing.T) {
	data := []int{1, 2, 3}
	b := newPair(1, 3)
	for line := range 3 {
		b.put(t, entry.Entry{Line: line, Data: data})
	}
	for line := range 2 {
		e, _ := b.c.Find(line)
		spoil(e.Data)
		b.must(t)
		e, _ = b.c.Drop(line)
		spoil(e.Data)
		b.list = b.list[1:]
		b.must(t)
	}
}

// R4: what behind the Data's length is put, is not handed out.
func TestNothingBehindTheLength(t *testing.T) {
	data, _ := within(1, 2)
	c := cache.New(1, 1)
	c.Put(entry.Entry{Line: 1, Data: data})
	found, _ := c.Find(1)
	dropped, _ := c.Drop(1)
	for _, e := range []entry.Entry{found, dropped} {
		if !slices.Equal(e.Data, []int{1, 2}) {
			t.Error(e.Data)
		}
		for _, word := range e.Data[2:cap(e.Data)] {
			if word != 0 {
				t.Errorf("%d is told behind the length", word)
			}
		}
	}
}

// R4: what Find tells is written into, all of its memory, and its fields: nothing in the cache is another one, nor what was told before.
func TestFindIsNew(t *testing.T) {
	b := newPair(2, 3)
	for line := range 6 {
		b.put(t, numbered(line, line+10))
		kept, _ := b.c.Find(line)
		e, _ := b.c.Find(line)
		spoil(e.Data)
		e.Data = append(e.Data, 7)
		e.Line, e.Used, e.Fwd, e.Back, e.Dirty = 70, 71, 72, 73, !e.Dirty
		b.must(t)
		b.mustOne(t, "Find, before", line, kept, true)
	}
}

// R4: what Drop tells is its taker's: it is written into, and nothing in the cache is another one, nor what was told before, and the other way round.
func TestDropIsApart(t *testing.T) {
	b := newPair(1, 4)
	for n := range 12 {
		b.put(t, numbered(1, n+10))
		b.put(t, numbered(2, n+11))
		was := b.list[b.at(1)]
		found, _ := b.c.Find(1)
		taken, _ := b.c.Drop(1)
		b.list = slices.DeleteFunc(b.list, func(e entry.Entry) bool { return e.Line == 1 })
		kept := apart(taken)
		spoil(found.Data)
		if !alike(taken, was) {
			t.Fatal("what Find told is what Drop told", taken, was)
		}
		b.put(t, taken)
		spoil(taken.Data)
		b.must(t)
		again, _ := b.c.Drop(1)
		kept.Used = again.Used
		if !alike(again, kept) {
			t.Fatal("what Drop told is in the cache", again, kept)
		}
		b.list = slices.DeleteFunc(b.list, func(e entry.Entry) bool { return e.Line == 1 })
		b.must(t)
	}
}

// R4: a list of Lines is new each time: it is written into, and later calls write nothing into it.
func TestLinesAreNew(t *testing.T) {
	b := newPair(2, 3)
	for n := range 6 {
		b.put(t, numbered(5-n, n))
		told := b.c.Lines()
		kept := slices.Clone(told)
		spoil(b.c.Lines())
		b.must(t)
		b.touch(t, 5-n)
		b.drop(t, 5-n)
		b.put(t, numbered(5-n, n))
		if !slices.Equal(told, kept) {
			t.Fatal(told, kept)
		}
		spoil(told)
		b.must(t)
	}
}

// R4: nil and empty Data are put alike.
func TestNoData(t *testing.T) {
	for _, data := range [][]int{nil, {}, {8, 9}} {
		b := newPair(1, 2)
		b.put(t, entry.Entry{Line: 1, Data: data[:0]})
		b.touch(t, 1)
		b.put(t, entry.Entry{Line: 1, Data: data})
		b.put(t, entry.Entry{Line: 1, Data: data[:0]})
		b.drop(t, 1)
	}
}
