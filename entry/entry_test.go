package entry_test

import (
	"math"
	"slices"
	"testing"

	"chaplet/api"
	"chaplet/entry"
)

// odd are numbers at the edges: of nodes, of lines, of what fewer digits can tell.
var odd = []int{api.None, 0, 1, 2, api.MaxNodes - 1, api.MaxNodes, -2, 255, 1<<16 - 1, 1<<32 - 1, 1 << 32, -1 << 32, math.MinInt, math.MinInt + 1, math.MaxInt - 1, math.MaxInt}

// noPlaces are places that so many words have not: just beside them, far off,
// and such as would be one if fewer digits of them were read.
func noPlaces(count int) []int {
	places := []int{-1, -2, -count - 1, count, count + 1, 1 << 8, 1 << 16, 1 << 32, -1 << 32, 1 << 62, math.MinInt, math.MinInt + 1, math.MaxInt - 1, math.MaxInt}
	return slices.DeleteFunc(places, func(at int) bool { return 0 <= at && at < count })
}

// counted is so many words, of which no two are the same and none is 0.
func counted(count, from int) []int {
	words := []int{}
	for i := range count {
		words = append(words, from+10*i)
	}
	return words
}

// plain is what an entry is held against: a number a field, and words that nobody else has.
type plain struct {
	line, used, fwd, back int
	dirty                 bool
	words                 []int
}

// pair is an entry beside what it has to be.
type pair struct {
	e    entry.Entry
	want plain
}

func newPair(line, fwd, back int, dirty bool, data ...int) *pair {
	return &pair{entry.New(line, fwd, back, dirty, data...), plain{line, 0, fwd, back, dirty, slices.Clone(data)}}
}

func (b *pair) must(t *testing.T) {
	t.Helper()
	mustBe(t, b.e, b.want)
}

// mustBe asks all that an entry tells, by its fields and by its calls.
func mustBe(t *testing.T, e entry.Entry, want plain) {
	t.Helper()
	if e.Line != want.line || e.Used != want.used || e.Fwd != want.fwd || e.Back != want.back || e.Dirty != want.dirty {
		t.Fatalf("%+v, want %+v", e, want)
	}
	if !slices.Equal(e.Data, want.words) {
		t.Fatalf("Data %v, want %v", e.Data, want.words)
	}
	mustStand(t, e, want.fwd, want.back)
	for at, v := range want.words {
		if got := e.Word(at); got != v {
			t.Fatalf("Word(%d) of %v: %d, want %d", at, want.words, got, v)
		}
	}
	for _, at := range noPlaces(len(want.words)) {
		if got := e.Word(at); got != 0 {
			t.Fatalf("Word(%d) of %v: %d, want 0", at, want.words, got)
		}
	}
}

// links is what Links and what embeds it have in common.
type links interface {
	Head() bool
	Tail() bool
	Only() bool
}

func mustStand(t *testing.T, l links, fwd, back int) {
	t.Helper()
	if got, want := l.Head(), back == -1; got != want {
		t.Fatalf("Fwd %d, Back %d: Head %v", fwd, back, got)
	}
	if got, want := l.Tail(), fwd == -1; got != want {
		t.Fatalf("Fwd %d, Back %d: Tail %v", fwd, back, got)
	}
	if got, want := l.Only(), fwd == -1 && back == -1; got != want {
		t.Fatalf("Fwd %d, Back %d: Only %v", fwd, back, got)
	}
}

func (b *pair) write(t *testing.T, at, v int) {
	t.Helper()
	want := b.want.dirty && 0 <= at && at < len(b.want.words)
	if want {
		b.want.words[at] = v
	}
	if got := b.e.Write(at, v); got != want {
		t.Fatalf("Write(%d, %d) of %+v: %v", at, v, b.want, got)
	}
	b.must(t)
}

func (b *pair) setFwd(t *testing.T, n int) {
	t.Helper()
	b.e.SetFwd(n)
	b.want.fwd = n
	b.must(t)
}

func (b *pair) setBack(t *testing.T, n int) {
	t.Helper()
	b.e.SetBack(n)
	b.want.back = n
	b.must(t)
}

func (b *pair) setDirty(t *testing.T, dirty bool) {
	t.Helper()
	b.e.Dirty, b.want.dirty = dirty, dirty
	b.must(t)
}

func (b *pair) clone() *pair {
	want := b.want
	want.words = slices.Clone(want.words)
	return &pair{b.e.Clone(), want}
}

// spoil writes into all of the words' memory, what lies behind their length too.
func spoil(words []int) {
	whole := words[:cap(words)]
	for i := range whole {
		whole[i] = -777 - i
	}
}

// P7.1, the example: New of a line alone is Only.
func TestAlone(t *testing.T) {
	for line := range api.MaxLines {
		e := entry.New(line, api.None, api.None, false)
		if !e.Only() || !e.Head() || !e.Tail() {
			t.Fatal(line, e)
		}
	}
}

// P7.1: who is head, tail, only: as the doc tells it, of each place in a list of three, two and one.
func TestPlaces(t *testing.T) {
	for i, r := range []struct {
		fwd, back        int
		head, tail, only bool
	}{
		{2, api.None, true, false, false},
		{1, 0, false, false, false},
		{api.None, 2, false, true, false},
		{0, api.None, true, false, false},
		{api.None, 0, false, true, false},
		{api.None, api.None, true, true, true},
		{0, 0, false, false, false},
	} {
		l := entry.Links{Fwd: r.fwd, Back: r.back}
		if l.Head() != r.head || l.Tail() != r.tail || l.Only() != r.only {
			t.Error(i, l, l.Head(), l.Tail(), l.Only())
		}
		e := entry.New(3, r.fwd, r.back, i%2 == 0, 1, 2)
		if e.Head() != r.head || e.Tail() != r.tail || e.Only() != r.only {
			t.Error(i, e, e.Head(), e.Tail(), e.Only())
		}
	}
}

// P7.1: nobody is None alone; any other number is somebody, be there such a node or not.
func TestOddLinks(t *testing.T) {
	for _, fwd := range odd {
		for _, back := range odd {
			mustStand(t, entry.Links{Fwd: fwd, Back: back}, fwd, back)
			newPair(0, fwd, back, true, 4).must(t)
		}
	}
}

// P7.1: SetFwd and SetBack of Links by themselves: the one, not the other.
func TestSetLinks(t *testing.T) {
	for _, a := range odd {
		for _, b := range odd {
			l := entry.Links{Fwd: 5, Back: 4}
			l.SetFwd(a)
			if l != (entry.Links{Fwd: a, Back: 4}) {
				t.Fatal(a, l)
			}
			l.SetBack(b)
			if l != (entry.Links{Fwd: a, Back: b}) {
				t.Fatal(a, b, l)
			}
			mustStand(t, l, a, b)
			l.SetFwd(api.None)
			mustStand(t, l, api.None, b)
			l.SetBack(api.None)
			mustStand(t, l, api.None, api.None)
		}
	}
}

// P7.1, Ways: an entry's links are set by the methods that it has from Links, and nothing else of it is.
func TestPromoted(t *testing.T) {
	for _, dirty := range []bool{false, true} {
		b := newPair(7, 2, 3, dirty, 5, 6, 7, 8)
		b.e.Used, b.want.used = 12, 12
		for _, n := range odd {
			b.setFwd(t, n)
			b.setBack(t, n)
			b.setBack(t, api.None)
			b.setFwd(t, api.None)
			b.setBack(t, n)
			b.setFwd(t, n)
		}
	}
	var l entry.Links = entry.New(1, 2, 3, false).Links
	if l != (entry.Links{Fwd: 2, Back: 3}) {
		t.Fatal(l)
	}
}

// P7.1: New keeps each of what it is given at its place, whatever the number; Used is 0.
func TestNew(t *testing.T) {
	e := entry.New(1, 2, 3, true, 5, 6)
	if e.Line != 1 || e.Fwd != 2 || e.Back != 3 || !e.Dirty || e.Used != 0 || !slices.Equal(e.Data, []int{5, 6}) {
		t.Fatalf("%+v", e)
	}
	for _, n := range odd {
		for _, dirty := range []bool{false, true} {
			newPair(n, 2, 3, dirty, 5, 6).must(t)
			newPair(1, n, 3, dirty, 5, 6).must(t)
			newPair(1, 2, n, dirty, 5, 6).must(t)
			newPair(1, 2, 3, dirty, n).must(t)
			newPair(1, 2, 3, dirty, 5, n, n).must(t)
		}
	}
}

// P7.1: of each number of words, those of a line and more: each is read, and none beside them.
func TestCounts(t *testing.T) {
	for _, count := range []int{0, 1, 2, 3, api.MaxWords, api.MaxWords + 1, 9, 300, 70000} {
		for _, dirty := range []bool{false, true} {
			b := newPair(2, 0, 1, dirty, counted(count, 3)...)
			b.must(t)
			b.clone().must(t)
		}
	}
}

// P7.1, R4: Data of no word, told as nothing, as nil or as an empty list: no word is read or written.
func TestNoWords(t *testing.T) {
	for _, dirty := range []bool{false, true} {
		for _, b := range []*pair{newPair(1, 2, 3, dirty), newPair(1, 2, 3, dirty, []int(nil)...), newPair(1, 2, 3, dirty, []int{}...), newPair(1, 2, 3, dirty, []int{8, 9}[:0]...)} {
			b.must(t)
			b.write(t, 0, 5)
			for _, at := range noPlaces(0) {
				b.write(t, at, 5)
			}
			b.clone().must(t)
			c := b.clone()
			c.write(t, 0, 5)
		}
	}
}

// P7.1: a Write changes the one word, to whatever value, one after the other; the last counts.
func TestWrite(t *testing.T) {
	for count := 1; count <= 6; count++ {
		b := newPair(4, 1, api.None, true, counted(count, 3)...)
		for at := range count {
			for _, v := range odd {
				b.write(t, at, v)
			}
		}
		for at := count - 1; at >= 0; at-- {
			b.write(t, at, 100+at)
			b.write(t, at, 100+at)
		}
	}
}

// P7.1, R2, R8: a Write where there is no word is false, and changes nothing.
func TestWriteNoPlace(t *testing.T) {
	for count := range 7 {
		for _, dirty := range []bool{false, true} {
			b := newPair(4, 1, 2, dirty, counted(count, 3)...)
			for _, at := range noPlaces(count) {
				b.write(t, at, 5)
				b.write(t, at, 0)
			}
		}
	}
}

// P7.1, R2: a Write on what is not Dirty is false, and changes nothing: not even to the word that is there.
func TestWriteNotDirty(t *testing.T) {
	for count := range 7 {
		b := newPair(4, api.None, api.None, false, counted(count, 3)...)
		for at := range count {
			b.write(t, at, 5)
			b.write(t, at, b.want.words[at])
		}
	}
}

// P7.1: what counts is whether the entry is Dirty when it is written, not how it was made.
func TestDirtyNow(t *testing.T) {
	for _, made := range []bool{false, true} {
		b := newPair(4, 1, 2, made, 5, 6, 7)
		for turn := range 6 {
			b.setDirty(t, turn%2 == 0)
			for at := -1; at <= 3; at++ {
				b.write(t, at, 10*turn+at)
			}
		}
	}
}

// P7.1, R4: memory behind the length is no word: it is neither read nor written.
func TestBehindTheLength(t *testing.T) {
	whole := []int{1, 2, 3, 4, 5}
	b := newPair(0, 1, 2, true, whole[:2]...)
	b.must(t)
	for at := -1; at < 6; at++ {
		b.write(t, at, 70+at)
	}
	if !slices.Equal(whole, []int{1, 2, 3, 4, 5}) {
		t.Fatal("written into what was handed in", whole)
	}
	b.e.Data, b.want.words = b.e.Data[:1], b.want.words[:1]
	b.must(t)
	b.write(t, 1, 9)
	c := b.clone()
	c.must(t)
	c.write(t, 1, 9)
}

// P7.1, R4: the words handed to New stay as they are, and what is written into them behind it is nothing to the entry.
func TestNewMemory(t *testing.T) {
	for count := range 7 {
		data := slices.Grow(counted(count, 3), 4)
		kept := slices.Clone(data)
		one := newPair(0, 1, 2, true, data...)
		other := newPair(0, 1, 2, true, data...)
		for at := range count {
			one.write(t, at, 80+at)
		}
		other.must(t)
		if !slices.Equal(data, kept) {
			t.Fatal("a Write changed what New was handed", data, kept)
		}
		spoil(data)
		one.must(t)
		other.must(t)
		for at := range count {
			other.write(t, at, 90+at)
		}
		one.must(t)
		kept = slices.Clone(data)
		spoil(one.e.Data)
		other.must(t)
		if !slices.Equal(data, kept) {
			t.Fatal("an entry's Data is what New was handed", data, kept)
		}
	}
}

// P7.1: a Clone is as the entry is, of each field.
func TestClone(t *testing.T) {
	for _, n := range odd {
		for _, dirty := range []bool{false, true} {
			b := newPair(n, 2, 3, dirty, counted(3, n)...)
			b.e.Used, b.want.used = n, n
			b.clone().must(t)
			b.setFwd(t, n)
			b.clone().must(t)
			b.setBack(t, n)
			b.clone().must(t)
			b.setDirty(t, !dirty)
			b.clone().must(t)
			b.clone().clone().must(t)
			b.must(t)
		}
	}
}

// P7.1, R4: what is done to a Clone, or to what it is a clone of, is nothing to the other one.
func TestCloneApart(t *testing.T) {
	for count := range 7 {
		b := newPair(1, 2, 3, true, counted(count, 3)...)
		c := b.clone()
		d := c.clone()
		all := []*pair{b, c, d}
		for i, one := range all {
			for at := range count {
				one.write(t, at, 100*i+at)
			}
			one.setFwd(t, i-1)
			one.setBack(t, 4-i)
			one.setDirty(t, i == 1)
			one.e.Line, one.want.line = 20+i, 20+i
			one.e.Used, one.want.used = 30+i, 30+i
			for _, x := range all {
				x.must(t)
			}
		}
		for i, one := range all {
			spoil(one.e.Data)
			one.want.words = slices.Clone(one.e.Data)
			for _, x := range all {
				x.must(t)
			}
			one.e.Data = append(one.e.Data, i)
			one.want.words = append(one.want.words, i)
			for _, x := range all {
				x.must(t)
			}
		}
	}
}

// P7.1: the calls that only ask change nothing.
func TestAskingChangesNothing(t *testing.T) {
	b := newPair(1, api.None, 3, true, 5, 6)
	for range 5 {
		b.must(t)
		b.e.Clone()
	}
}

// P7.1: long ways of all calls over several entries, some of them clones of others.
func TestManyTurns(t *testing.T) {
	digits := uint32(7)
	below := func(n int) int {
		digits = digits*1664525 + 1013904223
		return int(digits>>8) % n
	}
	all := []*pair{newPair(0, api.None, api.None, false)}
	for range 4000 {
		i := below(len(all))
		b := all[i]
		switch below(8) {
		case 0:
			words := counted(below(api.MaxWords+2), below(50))
			b = newPair(below(api.MaxLines), below(7)-1, below(7)-1, below(2) == 1, words...)
			spoil(words)
		case 1:
			b = b.clone()
		case 2:
			b.setFwd(t, below(7)-1)
		case 3:
			b.setBack(t, below(7)-1)
		case 4:
			b.setDirty(t, below(3) > 0)
		default:
			b.write(t, below(api.MaxWords+4)-2, below(100))
		}
		if below(3) == 0 && len(all) < 8 {
			all = append(all, b)
		} else {
			all[below(len(all))] = b
		}
		for _, x := range all {
			x.must(t)
		}
	}
}
