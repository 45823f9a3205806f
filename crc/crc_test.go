package crc_test

import (
	"bytes"
	"math"
	"testing"

	"chaplet/crc"
)

// remainder works the sum out another way than the package does: as a long
// division of all the digits at once, the first sixteen of them turned round
// (that is what a start of all ones comes to).
func remainder(b []byte) uint16 {
	digits := make([]int, 8*len(b)+16)
	for i := range 8 * len(b) {
		digits[i] = int(b[i/8]>>(7-i%8)) & 1
	}
	for i := range 16 {
		digits[i] ^= 1
	}
	divisor := [17]int{0: 1, 4: 1, 11: 1, 16: 1}
	for i := range 8 * len(b) {
		if digits[i] == 0 {
			continue
		}
		for j, d := range divisor {
			digits[i+j] ^= d
		}
	}
	rest := uint16(0)
	for _, d := range digits[8*len(b):] {
		rest = rest<<1 | uint16(d)
	}
	return rest
}

// spoilt works Spoil out on a list of digits, of which there are more on both
// sides than a mask may touch.
func spoilt(b []byte, bit int, mask uint16) []byte {
	const margin = 64
	digits := make([]byte, margin+8*len(b)+margin)
	for i := range 16 {
		digits[margin+bit+i] = byte(mask>>(15-i)) & 1
	}
	out := bytes.Clone(b)
	for i := range out {
		change := byte(0)
		for _, d := range digits[margin+8*i : margin+8*i+8] {
			change = change<<1 | d
		}
		out[i] ^= change
	}
	return out
}

func samples() [][]byte {
	all := make([]byte, 256)
	for i := range all {
		all[i] = byte(i)
	}
	return [][]byte{
		nil,
		{},
		{0},
		{0xff},
		{0x01},
		{0x80},
		{0, 0},
		{0xff, 0xff},
		{0xff, 0xff, 0, 0},
		[]byte("A"),
		[]byte("123456789"),
		[]byte("copies on a string"),
		all,
		bytes.Repeat([]byte{0}, 1000),
		bytes.Repeat([]byte{0xff}, 1000),
	}
}

// P1.1: the sums that are known.
func TestSumKnown(t *testing.T) {
	rows := []struct {
		text string
		want uint16
	}{
		{"", 0xffff},
		{"A", 0xb915},
		{"\x00", 0xe1f0},
		{"\xff\xff", 0x0000},
		{"123456789", 0x29b1},
	}
	for _, r := range rows {
		if got := crc.Sum([]byte(r.text)...); got != r.want {
			t.Errorf("Sum(%q) = %#04x, want %#04x", r.text, got, r.want)
		}
	}
}

// P1.1: Sum is a remainder, whatever the bytes are.
func TestSumIsRemainder(t *testing.T) {
	for _, b := range samples() {
		if got, want := crc.Sum(b...), remainder(b); got != want {
			t.Errorf("Sum(%x) = %#04x, want %#04x", b, got, want)
		}
	}
	for i := range 1 << 16 {
		b := []byte{byte(i >> 8), byte(i)}
		if got, want := crc.Sum(b...), remainder(b); got != want {
			t.Fatalf("Sum(%x) = %#04x, want %#04x", b, got, want)
		}
	}
}

// P1.1, Ways: bytes one by one, none, or a list of them.
func TestSumIsVariadic(t *testing.T) {
	if got := crc.Sum(); got != 0xffff {
		t.Errorf("Sum() = %#04x", got)
	}
	if got := crc.Sum('1', '2', '3', '4', '5', '6', '7', '8', '9'); got != 0x29b1 {
		t.Errorf("Sum of nine bytes = %#04x", got)
	}
	if crc.Sum(nil...) != crc.Sum([]byte{}...) {
		t.Error("nil and the empty list differ")
	}
}

// P1.1: b, and its sum behind it, the greater byte first.
func TestSeal(t *testing.T) {
	for _, b := range samples() {
		sum := remainder(b)
		want := append(bytes.Clone(b), byte(sum>>8), byte(sum))
		if got := crc.Seal(b); !bytes.Equal(got, want) {
			t.Errorf("Seal(%x) = %x, want %x", b, got, want)
		}
	}
	if got := crc.Seal([]byte("123456789")); !bytes.Equal(got, []byte("123456789\x29\xb1")) {
		t.Errorf("Seal = %x", got)
	}
	if got := crc.Seal(nil); !bytes.Equal(got, []byte{0xff, 0xff}) {
		t.Errorf("Seal(nil) = %x", got)
	}
}

// P1.1: what Seal was made of comes out again.
func TestOpenSealed(t *testing.T) {
	for _, b := range samples() {
		if got, ok := crc.Open(crc.Seal(b)); !ok || !bytes.Equal(got, b) {
			t.Errorf("Open(Seal(%x)) = %x, %v", b, got, ok)
		}
	}
}

// P1.1: seals of seals are seals too: the inner sum is not taken for the outer one.
func TestOpenTwice(t *testing.T) {
	once, ok := crc.Open(crc.Seal(crc.Seal([]byte("line"))))
	if !ok {
		t.Fatal("the outer seal does not open")
	}
	if got, ok := crc.Open(once); !ok || string(got) != "line" {
		t.Errorf("the inner seal: %q, %v", got, ok)
	}
}

// P1.1: false, and nothing beside it, where there is nothing that was sealed.
func TestOpenNoSeal(t *testing.T) {
	sealed := crc.Seal([]byte("123456789"))
	swapped := bytes.Clone(sealed)
	swapped[9], swapped[10] = swapped[10], swapped[9]
	rows := [][]byte{
		nil,
		{},
		{0},
		{0xff},
		{0, 0},
		{0xff, 0xfe},
		{0xfe, 0xff},
		[]byte("123456789"),
		sealed[:10],
		sealed[1:],
		append(bytes.Clone(sealed), 1),
		append([]byte{1}, sealed...),
		swapped,
	}
	for _, b := range rows {
		if got, ok := crc.Open(b); ok || len(got) != 0 {
			t.Errorf("Open(%x) = %x, %v", b, got, ok)
		}
	}
}

// P1.1: of all the pairs of bytes that may stand behind b just one is its seal.
func TestOpenOneSum(t *testing.T) {
	b := []byte{0x5a}
	sum := remainder(b)
	for i := range 1 << 16 {
		got, ok := crc.Open([]byte{0x5a, byte(i >> 8), byte(i)})
		if ok != (uint16(i) == sum) {
			t.Fatalf("sum %#04x: %v", i, ok)
		}
		if ok && !bytes.Equal(got, b) || !ok && len(got) != 0 {
			t.Fatalf("sum %#04x: %x", i, got)
		}
	}
}

// P1.1: the greatest digit of the mask meets the digit bit, the greatest of a byte first.
func TestSpoilKnown(t *testing.T) {
	rows := []struct {
		b    []byte
		bit  int
		mask uint16
		want []byte
	}{
		{[]byte{0, 0, 0}, 0, 0x8000, []byte{0x80, 0, 0}},
		{[]byte{0, 0, 0}, 0, 0x0001, []byte{0, 0x01, 0}},
		{[]byte{0, 0, 0}, 1, 0x8000, []byte{0x40, 0, 0}},
		{[]byte{0, 0, 0}, 7, 0xc000, []byte{0x01, 0x80, 0}},
		{[]byte{0, 0, 0}, 4, 0xabcd, []byte{0x0a, 0xbc, 0xd0}},
		{[]byte{0, 0, 0}, 8, 0xabcd, []byte{0, 0xab, 0xcd}},
		{[]byte{0xff, 0xff, 0xff}, 4, 0xffff, []byte{0xf0, 0, 0x0f}},
		{[]byte{0x12, 0x34, 0x56}, 8, 0, []byte{0x12, 0x34, 0x56}},
		{[]byte{0xaa}, 0, 0xff00, []byte{0x55}},
	}
	for _, r := range rows {
		if got := crc.Spoil(r.b, r.bit, r.mask); !bytes.Equal(got, r.want) {
			t.Errorf("Spoil(%x, %d, %#04x) = %x, want %x", r.b, r.bit, r.mask, got, r.want)
		}
	}
}

// P1.1: digits past the end, or ahead of 0, are none.
func TestSpoilBeside(t *testing.T) {
	b := []byte{0, 0, 0}
	rows := []struct {
		bit  int
		mask uint16
		want []byte
	}{
		{-1, 0x8000, []byte{0, 0, 0}},
		{-1, 0x4000, []byte{0x80, 0, 0}},
		{-8, 0xabcd, []byte{0xcd, 0, 0}},
		{-15, 0xffff, []byte{0x80, 0, 0}},
		{-15, 0xfffe, []byte{0, 0, 0}},
		{-16, 0xffff, []byte{0, 0, 0}},
		{-17, 0xffff, []byte{0, 0, 0}},
		{9, 0xffff, []byte{0, 0x7f, 0xff}},
		{16, 0xabcd, []byte{0, 0, 0xab}},
		{23, 0xffff, []byte{0, 0, 0x01}},
		{23, 0x7fff, []byte{0, 0, 0}},
		{24, 0xffff, []byte{0, 0, 0}},
		{25, 0xffff, []byte{0, 0, 0}},
		{math.MaxInt, 0xffff, []byte{0, 0, 0}},
		{math.MaxInt - 7, 0xffff, []byte{0, 0, 0}},
		{math.MinInt, 0xffff, []byte{0, 0, 0}},
		{math.MinInt + 7, 0xffff, []byte{0, 0, 0}},
	}
	for _, r := range rows {
		if got := crc.Spoil(b, r.bit, r.mask); !bytes.Equal(got, r.want) {
			t.Errorf("Spoil(%d, %#04x) = %x, want %x", r.bit, r.mask, got, r.want)
		}
	}
	for _, bit := range []int{math.MinInt, -16, -8, -1, 0, 1, math.MaxInt} {
		if got := crc.Spoil(nil, bit, 0xffff); len(got) != 0 {
			t.Errorf("Spoil(nil, %d) = %x", bit, got)
		}
	}
}

// P1.1: Spoil at every place, and what is spoilt twice alike is whole again.
func TestSpoilEverywhere(t *testing.T) {
	b := []byte("\x00\xff\x12\x5a\xa5")
	for bit := -20; bit < 8*len(b)+4; bit++ {
		for _, mask := range []uint16{0, 1, 0x8000, 0x8001, 0x1021, 0xabcd, 0xffff} {
			got := crc.Spoil(b, bit, mask)
			if want := spoilt(b, bit, mask); !bytes.Equal(got, want) {
				t.Errorf("Spoil(%d, %#04x) = %x, want %x", bit, mask, got, want)
			}
			if again := crc.Spoil(got, bit, mask); !bytes.Equal(again, b) {
				t.Errorf("spoilt twice by %d, %#04x: %x", bit, mask, again)
			}
		}
	}
}

// checkSpoilt holds Open of a spoilt seal against whether a digit fell into it.
func checkSpoilt(t *testing.T, b, sealed []byte, bit int, mask uint16) {
	t.Helper()
	hit := !bytes.Equal(spoilt(sealed, bit, mask), sealed)
	got, ok := crc.Open(crc.Spoil(sealed, bit, mask))
	if ok == hit {
		t.Fatalf("%x spoilt by %d, %#04x: Open says %v", b, bit, mask, ok)
	}
	if hit && len(got) != 0 || !hit && !bytes.Equal(got, b) {
		t.Fatalf("%x spoilt by %d, %#04x: Open gives %x", b, bit, mask, got)
	}
}

// P1.2: every mask, at every place of short seals.
func TestSpoiltIsNotOpenedShort(t *testing.T) {
	for _, b := range [][]byte{nil, {0x00}, {0xff, 0x5a}} {
		sealed := crc.Seal(b)
		for bit := -17; bit <= 8*len(sealed)+1; bit++ {
			for mask := range 1 << 16 {
				checkSpoilt(t, b, sealed, bit, uint16(mask))
			}
		}
	}
}

// P1.2: longer seals, spoilt anywhere, in the bytes, in the sum, across both.
func TestSpoiltIsNotOpenedLong(t *testing.T) {
	masks := []uint16{0, 0x8001, 0xffff, 0x1021, 0x8810, 0xabcd, 0x5555}
	for i := range 16 {
		masks = append(masks, 1<<i)
	}
	for _, b := range samples() {
		if len(b) > 256 {
			continue
		}
		sealed := crc.Seal(b)
		for bit := -17; bit <= 8*len(sealed)+1; bit++ {
			for _, mask := range masks {
				checkSpoilt(t, b, sealed, bit, mask)
			}
		}
	}
}

// within gives b as the front part of greater memory, to see what becomes of the rest.
func within(b []byte) (front, whole []byte) {
	whole = append(bytes.Clone(b), bytes.Repeat([]byte{0xee}, 8)...)
	return whole[:len(b)], whole
}

// R4: what is handed in is neither changed nor kept, nor what lies behind it.
func TestMemory(t *testing.T) {
	calls := []struct {
		name string
		in   []byte
		call func(b []byte) []byte
	}{
		{"Sum", []byte("12"), func(b []byte) []byte {
			sum := crc.Sum(b...)
			return []byte{byte(sum >> 8), byte(sum)}
		}},
		{"Seal", []byte("123456789"), crc.Seal},
		{"Open", crc.Seal([]byte("123456789")), func(b []byte) []byte {
			x, _ := crc.Open(b)
			return x
		}},
		{"Spoil", []byte("123456789"), func(b []byte) []byte { return crc.Spoil(b, 3, 0xffff) }},
		{"Spoil by nothing", []byte("123456789"), func(b []byte) []byte { return crc.Spoil(b, 3, 0) }},
		{"Spoil beside", []byte("123456789"), func(b []byte) []byte { return crc.Spoil(b, 1000, 0xffff) }},
	}
	for _, c := range calls {
		front, whole := within(c.in)
		before := bytes.Clone(whole)
		got := c.call(front)
		if !bytes.Equal(whole, before) {
			t.Errorf("%s changed what it was handed: %x", c.name, whole)
		}
		kept := bytes.Clone(got)
		for i := range whole {
			whole[i] ^= 0xff
		}
		if !bytes.Equal(got, kept) {
			t.Errorf("%s answered memory that it was handed", c.name)
		}
	}
}

// R5: the same calls answer the same, whatever was called between them.
func TestNothingIsKept(t *testing.T) {
	b := []byte("123456789")
	first := crc.Seal(b)
	crc.Sum(0, 1, 2)
	crc.Open([]byte{1, 2, 3})
	crc.Spoil(first, 5, 0xffff)
	if again := crc.Seal(b); !bytes.Equal(first, again) || crc.Sum(b...) != 0x29b1 {
		t.Errorf("%x, then %x", first, again)
	}
}
