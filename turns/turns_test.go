package turns_test

import (
	"math"
	"slices"
	"testing"

	"chaplet/api"
	"chaplet/turns"
)

// odd are numbers at the edges: of nodes, of lines, of what fewer digits can tell.
var odd = []int{0, 1, 2, 5, 6, 7, 8, 9, -1, -2, -3, -6, -8, 255, 256, 1<<16 - 1, 1 << 16, 1<<32 - 1, 1 << 32, 1<<32 + 1, -1 << 32, 1 << 62, math.MinInt, math.MinInt + 1, math.MaxInt - 1, math.MaxInt}

func fromZero(numbers []int) []int {
	return slices.DeleteFunc(slices.Clone(numbers), func(n int) bool { return n < 0 })
}

func belowZero(numbers []int) []int {
	return slices.DeleteFunc(slices.Clone(numbers), func(n int) bool { return n >= 0 })
}

// ask is one that waits for a line, or that has it.
type ask struct{ line, who, id int }

// pair is a Turns beside what it is held against: one list of all that wait,
// for whatever line, as they asked; and one of all that have a line.
type pair struct {
	x      *turns.Turns
	wait   []ask
	have   []ask
	spoken []int // each line that was spoken of
}

func newPair() *pair {
	return &pair{x: turns.New()}
}

func (b *pair) speakOf(line int) {
	if !slices.Contains(b.spoken, line) {
		b.spoken = append(b.spoken, line)
	}
}

func (b *pair) owner(line int) int {
	for _, a := range b.have {
		if a.line == line {
			return a.who
		}
	}
	return -1
}

func (b *pair) waiting(line int) int {
	count := 0
	for _, a := range b.wait {
		if a.line == line {
			count++
		}
	}
	return count
}

func (b *pair) ready() []int {
	lines := []int{}
	for _, a := range b.wait {
		if b.owner(a.line) == -1 && !slices.Contains(lines, a.line) {
			lines = append(lines, a.line)
		}
	}
	slices.Sort(lines)
	return lines
}

// must asks all that is told of a line without changing anything.
func (b *pair) must(t *testing.T) {
	t.Helper()
	for _, line := range append([]int{-1, 0, 1, 2, 3, 4, 1000}, b.spoken...) {
		if got, want := b.x.Owner(line), b.owner(line); got != want {
			t.Fatalf("%v have, %v wait: Owner(%d) %d, want %d", b.have, b.wait, line, got, want)
		}
		if got, want := b.x.Waiting(line), b.waiting(line); got != want {
			t.Fatalf("%v have, %v wait: Waiting(%d) %d, want %d", b.have, b.wait, line, got, want)
		}
	}
	if got, want := b.x.Ready(), b.ready(); !slices.Equal(got, want) {
		t.Fatalf("%v have, %v wait: Ready %v, want %v", b.have, b.wait, got, want)
	}
}

func (b *pair) ask(t *testing.T, line, who, id int) bool {
	t.Helper()
	b.speakOf(line)
	want := who >= 0 && b.owner(line) == -1 && b.waiting(line) == 0
	if got := b.x.Ask(line, who, id); got != want {
		t.Fatalf("%v have, %v wait: Ask(%d, %d, %d) %v, want %v", b.have, b.wait, line, who, id, got, want)
	}
	switch {
	case want:
		b.have = append(b.have, ask{line, who, id})
	case who >= 0:
		b.wait = append(b.wait, ask{line, who, id})
	}
	b.must(t)
	return want
}

func (b *pair) release(t *testing.T, line, who int) api.Errno {
	t.Helper()
	b.speakOf(line)
	want := api.Errno(6) // ErrState
	for i, a := range b.have {
		if a.line == line && a.who == who {
			b.have = slices.Delete(b.have, i, i+1)
			want = 0 // OK
			break
		}
	}
	if got := b.x.Release(line, who); got != want {
		t.Fatalf("%v have, %v wait: Release(%d, %d) %d, want %d", b.have, b.wait, line, who, got, want)
	}
	b.must(t)
	return want
}

func (b *pair) next(t *testing.T, line int) bool {
	t.Helper()
	b.speakOf(line)
	want, ok := ask{}, false
	for i, a := range b.wait {
		if a.line == line && b.owner(line) == -1 {
			want, ok = a, true
			b.wait = slices.Delete(b.wait, i, i+1)
			b.have = append(b.have, a)
			break
		}
	}
	if who, id, is := b.x.Next(line); is != ok || who != want.who || id != want.id {
		t.Fatalf("%v have, %v wait: Next(%d) %d, %d, %v; want %d, %d, %v", b.have, b.wait, line, who, id, is, want.who, want.id, ok)
	}
	b.must(t)
	return ok
}

// drain lets all that have a line let go, and all that wait be next, till there is nobody.
func (b *pair) drain(t *testing.T) {
	t.Helper()
	for len(b.have)+len(b.wait) > 0 {
		for _, a := range slices.Clone(b.have) {
			b.release(t, a.line, a.who)
		}
		for _, line := range b.ready() {
			b.next(t, line)
		}
	}
	b.must(t)
}

// P10.1: a line that nobody asked for: Owner None, Waiting 0, Next false, Release ErrState; Ready none.
func TestNew(t *testing.T) {
	x := turns.New()
	for range 2 {
		for _, line := range odd {
			if got := x.Owner(line); got != -1 {
				t.Fatalf("Owner(%d) %d", line, got)
			}
			if got := x.Waiting(line); got != 0 {
				t.Fatalf("Waiting(%d) %d", line, got)
			}
			if who, id, ok := x.Next(line); who != 0 || id != 0 || ok {
				t.Fatalf("Next(%d) %d, %d, %v", line, who, id, ok)
			}
			for _, who := range odd {
				if e := x.Release(line, who); e != api.ErrState {
					t.Fatalf("Release(%d, %d) %d", line, who, e)
				}
			}
		}
		if got := x.Ready(); len(got) != 0 {
			t.Fatal(got)
		}
	}
}

// P10.1, the example: Ask of a new one: true; of each line, by each who, with each id.
func TestAskOfANewOne(t *testing.T) {
	for _, line := range fromZero(odd) {
		for _, who := range fromZero(odd) {
			for _, id := range odd {
				x := turns.New()
				if !x.Ask(line, who, id) || x.Owner(line) != who || x.Waiting(line) != 0 || len(x.Ready()) != 0 {
					t.Fatal(line, who, id)
				}
			}
		}
	}
}

// P10.1: one line from its first owner to nobody, by hand.
func TestByHand(t *testing.T) {
	x := turns.New()
	must := func(owner, waiting int, ready ...int) {
		t.Helper()
		if x.Owner(2) != owner || x.Waiting(2) != waiting || !slices.Equal(x.Ready(), ready) {
			t.Fatal(x.Owner(2), x.Waiting(2), x.Ready())
		}
	}
	mustNext := func(who, id int) {
		t.Helper()
		if w, i, ok := x.Next(2); w != who || i != id || !ok {
			t.Fatal(w, i, ok)
		}
	}
	mustNobody := func() {
		t.Helper()
		if w, i, ok := x.Next(2); w != 0 || i != 0 || ok {
			t.Fatal(w, i, ok)
		}
	}
	if !x.Ask(2, 4, 100) {
		t.Fatal("first")
	}
	must(4, 0)
	mustNobody()
	if x.Ask(2, 0, 200) || x.Ask(2, 3, 300) {
		t.Fatal("behind an owner")
	}
	must(4, 2)
	mustNobody()
	if x.Release(2, 0) != api.ErrState || x.Release(2, -1) != api.ErrState {
		t.Fatal("not its owner")
	}
	must(4, 2)
	if x.Release(2, 4) != api.OK {
		t.Fatal("its owner")
	}
	must(-1, 2, 2)
	if x.Release(2, 4) != api.ErrState || x.Ask(2, 4, 400) {
		t.Fatal("no owner")
	}
	must(-1, 3, 2)
	mustNext(0, 200)
	must(0, 2)
	mustNobody()
	x.Release(2, 0)
	must(-1, 2, 2)
	mustNext(3, 300)
	x.Release(2, 3)
	mustNext(4, 400)
	must(4, 0)
	x.Release(2, 4)
	must(-1, 0)
	mustNobody()
	if !x.Ask(2, 1, 500) {
		t.Fatal("first again")
	}
	must(1, 0)
}

// stands are a line's cases: new, owned, owned with some that wait, with no owner and some that wait, and with nobody again.
func stands(t *testing.T) []*pair {
	t.Helper()
	list := []*pair{}
	for stage := range 5 {
		b := newPair()
		if stage > 0 {
			b.ask(t, 3, 1, 10)
		}
		if stage > 1 {
			b.ask(t, 3, 2, 20)
			b.ask(t, 3, 0, 30)
		}
		if stage > 2 {
			b.release(t, 3, 1)
		}
		if stage > 3 {
			b.drain(t)
		}
		list = append(list, b)
	}
	return list
}

// P10.1: a who below 0: false, and nothing is another one then, however the line stands.
func TestNobodyAsks(t *testing.T) {
	for stage, b := range stands(t) {
		for _, who := range belowZero(odd) {
			for _, id := range odd {
				if b.ask(t, 3, who, id) || b.ask(t, 4, who, id) {
					t.Fatal(stage, who, id)
				}
			}
		}
		if b.x.Owner(4) != api.None || b.x.Waiting(4) != 0 {
			t.Fatal(stage)
		}
		if b.ask(t, 4, 5, 50); b.x.Owner(4) != 5 {
			t.Fatal(stage)
		}
		b.drain(t)
	}
}

// P10.1: Ask by each who, however the line stands; who waits is told with the id that it asked by.
func TestAskInEachStand(t *testing.T) {
	for who := range api.MaxNodes {
		for _, id := range odd {
			for stage, b := range stands(t) {
				before := b.x.Waiting(3)
				got := b.ask(t, 3, who, id)
				if first := stage == 0 || stage == 4; got != first || first && b.x.Owner(3) != who || !first && b.x.Waiting(3) != before+1 {
					t.Fatal(stage, who, id, got)
				}
				b.drain(t)
			}
		}
	}
}

// P10.1: of a line that has no owner while somebody waits: who asks waits too, behind them, be it who let go just now or who waits already.
func TestAskWhileSomebodyWaits(t *testing.T) {
	for who := range api.MaxNodes {
		b := stands(t)[3]
		if b.ask(t, 3, who, 40) || b.ask(t, 3, who, 41) || b.x.Owner(3) != api.None {
			t.Fatal(who)
		}
		for _, want := range []ask{{3, 2, 20}, {3, 0, 30}, {3, who, 40}, {3, who, 41}} {
			if w, id, ok := b.x.Next(3); !ok || w != want.who || id != want.id || b.x.Owner(3) != w {
				t.Fatal(w, id, ok, want)
			}
			if b.x.Release(3, want.who) != api.OK {
				t.Fatal(want)
			}
		}
		if b.x.Waiting(3) != 0 || !b.x.Ask(3, who, 42) {
			t.Fatal(who)
		}
	}
}

// P10.1: the one who has it asks again, and again: it waits, and is next when it has let go.
func TestOwnerAsksAgain(t *testing.T) {
	b := newPair()
	b.ask(t, 0, 2, 7)
	for id := 8; id < 11; id++ {
		if b.ask(t, 0, 2, id) {
			t.Fatal(id)
		}
	}
	if b.x.Owner(0) != 2 || b.x.Waiting(0) != 3 {
		t.Fatal(b.x.Owner(0), b.x.Waiting(0))
	}
	for id := 8; id < 11; id++ {
		if b.next(t, 0) || b.release(t, 0, 2) != api.OK || b.x.Owner(0) != api.None {
			t.Fatal(id)
		}
		if who, got, ok := b.x.Next(0); who != 2 || got != id || !ok {
			t.Fatal(who, got, ok)
		}
		b.have, b.wait = append(b.have, b.wait[0]), b.wait[1:]
		b.must(t)
	}
	b.drain(t)
}

// P10.1: the same who waits twice, with one id and with two; each counts, and is told in its turn.
func TestSameWhoTwice(t *testing.T) {
	b := newPair()
	b.ask(t, 6, 0, 1)
	asks := []ask{{6, 1, 11}, {6, 1, 12}, {6, 2, 13}, {6, 1, 11}, {6, 1, 11}, {6, 2, 13}, {6, 0, 11}}
	for i, a := range asks {
		if b.ask(t, 6, a.who, a.id) || b.x.Waiting(6) != i+1 {
			t.Fatal(i, b.x.Waiting(6))
		}
	}
	b.release(t, 6, 0)
	for i, a := range asks {
		if who, id, ok := b.x.Next(6); !ok || who != a.who || id != a.id || b.x.Waiting(6) != len(asks)-i-1 {
			t.Fatal(i, who, id, ok)
		}
		if b.x.Release(6, a.who) != api.OK {
			t.Fatal(i)
		}
	}
	if _, _, ok := b.x.Next(6); ok {
		t.Fatal("somebody")
	}
}

// P10.1, R2: Release by another one than its owner, and of a line that has none: ErrState, and nothing is another one then.
func TestReleaseByAnother(t *testing.T) {
	for stage, b := range stands(t) {
		for _, who := range append(slices.Clone(odd), 3, 4) {
			if stage > 0 && stage < 3 && who == 1 {
				continue
			}
			for range 2 {
				if b.release(t, 3, who) != api.ErrState || b.release(t, 2, who) != api.ErrState {
					t.Fatal(stage, who)
				}
			}
		}
		b.drain(t)
	}
}

// P10.1: its owner lets go once; then the line has none, and who let go is as any other one.
func TestReleaseOnce(t *testing.T) {
	for _, who := range fromZero(odd) {
		b := newPair()
		b.ask(t, 5, who, 3)
		if b.release(t, 5, who) != api.OK || b.release(t, 5, who) != api.ErrState || b.x.Owner(5) != api.None {
			t.Fatal(who)
		}
		if !b.ask(t, 5, who, 4) || b.release(t, 5, who) != api.OK {
			t.Fatal(who)
		}
		if !b.ask(t, 5, 3, 5) || who != 3 && b.release(t, 5, who) != api.ErrState {
			t.Fatal(who)
		}
		b.drain(t)
	}
}

// P10.1: Next while the line has an owner, and with nobody waiting: false, and nothing is another one then.
func TestNextIsFalse(t *testing.T) {
	for stage, b := range stands(t) {
		for range 3 {
			if stage != 3 && b.next(t, 3) || b.next(t, 0) || b.next(t, -3) || b.next(t, math.MaxInt) {
				t.Fatal(stage)
			}
		}
		b.drain(t)
	}
}

// orders calls f with each order of the numbers from 0 to below n.
func orders(n int, f func(order []int)) {
	order := make([]int, 0, n)
	var add func()
	add = func() {
		if len(order) == n {
			f(slices.Clone(order))
			return
		}
		for i := range n {
			if !slices.Contains(order, i) {
				order = append(order, i)
				add()
				order = order[:len(order)-1]
			}
		}
	}
	add()
}

// P10.1: in whatever order they asked, in that one they are next.
func TestEachOrderOfAsking(t *testing.T) {
	for n := 1; n <= api.MaxNodes; n++ {
		orders(n, func(order []int) {
			x := turns.New()
			for i, who := range order {
				if x.Ask(7, who, 100*who+i) != (i == 0) {
					t.Fatal(order, i)
				}
			}
			for i, who := range order {
				if i > 0 {
					if w, id, ok := x.Next(7); !ok || w != who || id != 100*who+i {
						t.Fatal(order, w, id, ok)
					}
				}
				if x.Owner(7) != who || x.Waiting(7) != n-1-i || x.Release(7, who) != api.OK {
					t.Fatal(order, i)
				}
			}
			if x.Waiting(7) != 0 || len(x.Ready()) != 0 {
				t.Fatal(order)
			}
		})
	}
}

// P10.1, R5: Ready rises in whatever order lines were asked for and let go, and is the same each time.
func TestReadyRises(t *testing.T) {
	lines := []int{0, 1, 5, 8, 300, math.MaxInt}
	orders(len(lines), func(order []int) {
		x := turns.New()
		for i, at := range order {
			x.Ask(lines[at], i, 1)
			x.Ask(lines[at], i, 2)
		}
		if got := x.Ready(); len(got) != 0 {
			t.Fatal(got)
		}
		want := []int{}
		for i, at := range order {
			x.Release(lines[at], i)
			want = append(want, lines[at])
			slices.Sort(want)
			if got := x.Ready(); !slices.Equal(got, want) {
				t.Fatal(got, want)
			}
		}
		for _, at := range order {
			x.Next(lines[at])
			want = slices.DeleteFunc(want, func(line int) bool { return line == lines[at] })
			if got := x.Ready(); !slices.Equal(got, want) {
				t.Fatal(got, want)
			}
		}
	})
}

// P10.1: of many lines: no line that has an owner is in Ready, and none for which nobody waits; each line once, however many wait.
func TestReadyOfManyLines(t *testing.T) {
	const many = 400
	x, want := turns.New(), []int{}
	for i := range many {
		line := (i * 149) % many // each once, in no order
		for id := range 1 + line%3 {
			x.Ask(line, line%api.MaxNodes, id)
		}
		if line%5 != 0 {
			x.Release(line, line%api.MaxNodes)
		}
		if line%3 > 0 && line%5 != 0 {
			want = append(want, line)
		}
	}
	slices.Sort(want)
	for range 3 {
		if got := x.Ready(); !slices.Equal(got, want) {
			t.Fatal(got)
		}
	}
	for len(want) > 0 {
		if who, _, ok := x.Next(want[0]); !ok || who != want[0]%api.MaxNodes {
			t.Fatal(want[0], who, ok)
		}
		want = want[1:]
		if got := x.Ready(); !slices.Equal(got, want) {
			t.Fatal(got)
		}
	}
}

// P10.1: each way of five turns of two lines: asking by two, letting go, being next; then all are let through.
func TestEachWayOfFiveTurns(t *testing.T) {
	steps := []func(b *pair, id int){
		func(b *pair, id int) { b.ask(t, 0, 0, id) },
		func(b *pair, id int) { b.ask(t, 0, 1, id) },
		func(b *pair, id int) { b.ask(t, 1, 0, id) },
		func(b *pair, id int) { b.release(t, 0, 0) },
		func(b *pair, id int) { b.release(t, 0, 1) },
		func(b *pair, id int) { b.release(t, 1, 0) },
		func(b *pair, id int) { b.next(t, 0) },
		func(b *pair, id int) { b.next(t, 1) },
	}
	for way := range 8 * 8 * 8 * 8 * 8 {
		b := newPair()
		for id := range 5 {
			steps[way%8](b, id+1)
			way /= 8
		}
		b.drain(t)
	}
}

// P10.1: long ways of many lines and many whos, now with more asking, now with more letting go.
func TestLongWays(t *testing.T) {
	for lines := 1; lines <= api.MaxLines; lines++ {
		b, digits := newPair(), uint32(lines)
		for n := range 3000 {
			digits = digits*1664525 + 1013904223
			line, who := int(digits>>8)%lines, int(digits>>16)%api.MaxNodes
			asks := uint32(2)
			if n/100%2 == 1 {
				asks = 4
			}
			switch choice := digits >> 28 % 8; {
			case choice < asks:
				b.ask(t, line, who, n)
			case choice == 4:
				b.release(t, line, who)
			case choice == 5:
				b.next(t, line)
			case b.owner(line) >= 0:
				b.release(t, line, b.owner(line))
			default:
				b.next(t, line)
			}
		}
		b.drain(t)
	}
}

// P10.1: lines do not meddle with each other: what is done to one is told of no other one.
func TestLinesAreApart(t *testing.T) {
	lines := fromZero(odd)
	b := newPair()
	for i, line := range lines {
		b.ask(t, line, i%3, 10*i)
	}
	for i, line := range lines {
		b.ask(t, line, 3, 10*i+1)
		b.ask(t, line, i%3, 10*i+2)
	}
	for i, line := range lines {
		if b.release(t, line, 4) != api.ErrState || b.release(t, line, i%3) != api.OK {
			t.Fatal(line)
		}
		if b.next(t, lines[(i+1)%len(lines)]) != (i == len(lines)-1) {
			t.Fatal(line)
		}
		b.ask(t, line, 5, 10*i+3)
	}
	b.drain(t)
}

// P10.1: one who may have many lines at once, and wait for others.
func TestOneHasManyLines(t *testing.T) {
	b := newPair()
	for line := range 5 {
		b.ask(t, line, line%2, line)
		b.ask(t, line, 1-line%2, 10+line)
	}
	for line := range 5 {
		if b.release(t, line, 1-line%2) != api.ErrState || b.release(t, line, line%2) != api.OK {
			t.Fatal(line)
		}
	}
	for line := 4; line >= 0; line-- {
		if !b.next(t, line) || b.x.Owner(line) != 1-line%2 {
			t.Fatal(line)
		}
	}
	b.drain(t)
}

// R5: two that are made know nothing of each other.
func TestTwoAreApart(t *testing.T) {
	one, other := newPair(), newPair()
	for n := range 40 {
		one.ask(t, n%3, n%4, n)
		other.must(t)
		other.ask(t, n%5, n%2, 100+n)
		one.must(t)
		one.release(t, n%4, n%3)
		other.must(t)
		other.next(t, n%5)
		one.must(t)
	}
	one.drain(t)
	other.must(t)
	other.drain(t)
}

// P10.1: what is only asked of changes nothing, and makes no line ready.
func TestTellingChangesNothing(t *testing.T) {
	for _, b := range stands(t) {
		for range 5 {
			for _, line := range odd {
				b.speakOf(line)
			}
			b.must(t)
		}
		b.drain(t)
	}
}

// P10.1: many wait for one line, come and go: their order holds.
func TestMany(t *testing.T) {
	const many = 100000
	x := turns.New()
	x.Ask(1, 0, 0)
	for n := 1; n < many; n++ {
		if x.Ask(1, n, -n) {
			t.Fatal(n)
		}
	}
	for n := range many {
		if x.Owner(1) != n || x.Release(1, n) != api.OK {
			t.Fatal(n)
		}
		if x.Ask(1, n+many, -n-many) {
			t.Fatal(n)
		}
		if who, id, ok := x.Next(1); who != n+1 || id != -n-1 || !ok {
			t.Fatal(n, who, id, ok)
		}
	}
	if x.Waiting(1) != many-1 {
		t.Fatal(x.Waiting(1))
	}
}

// R8: a line below 0 is none: nobody has it, nobody waits for it, and no other one is another one for it.
func TestNoLine(t *testing.T) {
	for stage, b := range stands(t) {
		for _, line := range belowZero(odd) {
			for who := range 3 {
				if b.x.Ask(line, who, 70+who) || b.x.Release(line, who) != api.ErrState {
					t.Fatal(stage, line, who)
				}
				if _, _, ok := b.x.Next(line); ok || b.x.Owner(line) != api.None || b.x.Waiting(line) != 0 {
					t.Fatal(stage, line, who)
				}
			}
			b.must(t)
		}
		b.drain(t)
	}
}

// R4: what Ready has told written into, all of its memory: nothing is another one for it, and nothing that was told before.
func TestReadyMemory(t *testing.T) {
	for count := range 9 {
		b := newPair()
		for line := range count {
			b.ask(t, line, 0, 1)
			b.ask(t, line, 1, 2)
			b.release(t, line, 0)
		}
		first, second := b.x.Ready(), b.x.Ready()
		_ = append(second, 99)
		whole := second[:cap(second)]
		for i := range whole {
			whole[i] = 1000 - i
		}
		b.must(t)
		if want := b.ready(); !slices.Equal(first, want) {
			t.Fatalf("what was told before is %v, was %v", first, want)
		}
		want := slices.Clone(first)
		b.drain(t)
		if !slices.Equal(first, want) {
			t.Fatalf("a later call wrote into what was told: %v, was %v", first, want)
		}
	}
}
