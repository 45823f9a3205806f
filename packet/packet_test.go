package packet_test

import (
	"bytes"
	"encoding/binary"
	"fmt"
	"math"
	"reflect"
	"slices"
	"testing"

	"chaplet/api"
	"chaplet/crc"
	"chaplet/packet"
)

// some is a packet whose fields are all different, so that one taken for
// another is found; all of them are well within their bounds.
func some() api.Packet {
	return api.Packet{Kind: api.Purge, From: 3, To: 4, ID: 0x0a0b, Line: 5, Ptr: 2, State: api.Fresh, Flag: true, Data: []int{0x0102030405060708, -2, 7}}
}

func least() api.Packet {
	return api.Packet{Kind: 1, Ptr: -1}
}

func greatest() api.Packet {
	return api.Packet{Kind: 9, From: 5, To: 5, ID: 4095, Line: 7, Ptr: 5, State: 2, Flag: true, Data: []int{math.MaxInt, math.MinInt, -1, math.MaxInt}}
}

type field struct {
	name        string
	least, most int
	of          func(p *api.Packet) *int
}

func fields() []field {
	return []field{
		{"Kind", 1, 9, func(p *api.Packet) *int { return &p.Kind }},
		{"From", 0, 5, func(p *api.Packet) *int { return &p.From }},
		{"To", 0, 5, func(p *api.Packet) *int { return &p.To }},
		{"ID", 0, 4095, func(p *api.Packet) *int { return &p.ID }},
		{"Line", 0, 7, func(p *api.Packet) *int { return &p.Line }},
		{"Ptr", -1, 5, func(p *api.Packet) *int { return &p.Ptr }},
		{"State", 0, 2, func(p *api.Packet) *int { return &p.State }},
	}
}

// beside are numbers that a cut to one byte, to two or to four would take for small ones.
func beside() []int {
	return []int{math.MinInt, math.MinInt + 1, -1 << 32, -65535, -256, -255, -9, -3, -2, -1, 0, 1, 2, 3, 4, 5, 6, 7, 8, 9, 10, 255, 256, 257, 261, 4094, 4095, 4096, 4097, 65535, 65536, 65537, 1 << 32, 1<<32 + 1, math.MaxInt - 1, math.MaxInt}
}

// bare lays a packet's bytes out another way than the package does: by the library's calls.
func bare(p api.Packet) []byte {
	b := []byte{byte(p.Kind), byte(p.From), byte(p.To)}
	b = binary.BigEndian.AppendUint16(b, uint16(p.ID))
	b = append(b, byte(p.Line), byte(p.Ptr+1), byte(p.State), 0, byte(len(p.Data)))
	if p.Flag {
		b[8] = 1
	}
	for _, word := range p.Data {
		b = binary.BigEndian.AppendUint64(b, uint64(word))
	}
	return b
}

// packets are right ones: of each kind, with each field at each edge and at
// all or some of the numbers in between, with as many Data as may be.
func packets() []api.Packet {
	list := []api.Packet{some(), least(), greatest()}
	for kind := api.Lock; kind <= api.Told; kind++ {
		for words := range 5 {
			p := some()
			p.Kind, p.Data = kind, greatest().Data[:words]
			list = append(list, p)
		}
	}
	for _, from := range []func() api.Packet{some, least, greatest} {
		for _, f := range fields() {
			for _, v := range beside() {
				if v < f.least || v > f.most {
					continue
				}
				p := from()
				*f.of(&p) = v
				list = append(list, p)
			}
		}
		p := from()
		p.Flag = !p.Flag
		list = append(list, p)
	}
	return list
}

// isNothing tells whether p has its zero value, but that a list may be empty.
func isNothing(p api.Packet) bool {
	if len(p.Data) != 0 {
		return false
	}
	p.Data = nil
	return reflect.DeepEqual(p, api.Packet{})
}

// alike holds packets against each other as the library does, nil and the empty list being the same.
func alike(a, b api.Packet) bool {
	a.Data, b.Data = append([]int{}, a.Data...), append([]int{}, b.Data...)
	return reflect.DeepEqual(a, b)
}

// P3.1: which kinds are requests, and what answers them: each kind, the one below Lock, the one above Told.
func TestRequestAndAnswer(t *testing.T) {
	rows := []struct {
		kind    int
		request bool
		answer  int
	}{
		{0, false, 0},
		{1, true, 7}, // Lock: Granted
		{2, true, 8}, // Unlock: Done
		{3, true, 9}, // Attach: Told
		{4, true, 8}, // SetFwd: Done
		{5, true, 8}, // SetBack: Done
		{6, true, 9}, // Purge: Told
		{7, false, 0},
		{8, false, 0},
		{9, false, 0},
		{10, false, 0},
		{-1, false, 0},
		{-6, false, 0},
		{257, false, 0},
		{1<<32 + 1, false, 0},
		{math.MinInt, false, 0},
		{math.MinInt + 1, false, 0},
		{math.MaxInt, false, 0},
	}
	for _, r := range rows {
		if got := packet.Request(r.kind); got != r.request {
			t.Errorf("Request(%d) = %v", r.kind, got)
		}
		if got := packet.Answer(r.kind); got != r.answer {
			t.Errorf("Answer(%d) = %d, want %d", r.kind, got, r.answer)
		}
	}
}

// P3.1: packets that are right.
func TestCheckRight(t *testing.T) {
	for _, p := range packets() {
		if got := packet.Check(p); got != api.OK {
			t.Errorf("Check(%+v) = %d", p, got)
		}
	}
}

// P3.1: each field at its least and its greatest, one below and one above, and far off.
func TestCheckEachField(t *testing.T) {
	for _, from := range []func() api.Packet{some, least, greatest} {
		for _, f := range fields() {
			for _, v := range beside() {
				p := from()
				*f.of(&p) = v
				want := api.ErrArg
				if v >= f.least && v <= f.most {
					want = api.OK
				}
				if got := packet.Check(p); got != want {
					t.Errorf("Check with %s %d = %d, want %d", f.name, v, got, want)
				}
			}
		}
	}
}

// P3.1: no Data, MaxWords of them, one more, as many as a byte would count as none.
func TestCheckData(t *testing.T) {
	for words, want := range map[int]api.Errno{0: api.OK, 1: api.OK, 3: api.OK, 4: api.OK, 5: api.ErrArg, 6: api.ErrArg, 255: api.ErrArg, 256: api.ErrArg, 257: api.ErrArg} {
		p := some()
		p.Data = make([]int, words)
		if got := packet.Check(p); got != want {
			t.Errorf("Check with %d Data = %d, want %d", words, got, want)
		}
	}
}

// P3.1: nothing is no packet, and one wrong field is not made good by the others.
func TestCheckNothing(t *testing.T) {
	if got := packet.Check(api.Packet{}); got != api.ErrArg {
		t.Errorf("Check of nothing = %d", got)
	}
	if got := packet.Check(api.Packet{Kind: 10, From: 6, To: -1, ID: -1, Line: 8, Ptr: -2, State: 3, Data: make([]int, 5)}); got != api.ErrArg {
		t.Errorf("Check of a packet all wrong = %d", got)
	}
}

// P3.2: the bytes, one by one, and the sum behind them.
func TestPackKnown(t *testing.T) {
	rows := []struct {
		p    api.Packet
		want []byte
	}{
		{some(), []byte{
			6, 3, 4, 0x0a, 0x0b, 5, 3, 1, 1, 3,
			1, 2, 3, 4, 5, 6, 7, 8,
			255, 255, 255, 255, 255, 255, 255, 254,
			0, 0, 0, 0, 0, 0, 0, 7,
		}},
		{least(), []byte{1, 0, 0, 0, 0, 0, 0, 0, 0, 0}},
		{greatest(), []byte{
			9, 5, 5, 0x0f, 0xff, 7, 6, 2, 1, 4,
			127, 255, 255, 255, 255, 255, 255, 255,
			128, 0, 0, 0, 0, 0, 0, 0,
			255, 255, 255, 255, 255, 255, 255, 255,
			127, 255, 255, 255, 255, 255, 255, 255,
		}},
		{api.Packet{Kind: api.Lock}, []byte{1, 0, 0, 0, 0, 0, 1, 0, 0, 0}},
	}
	for _, r := range rows {
		if got, e := packet.Pack(r.p); e != api.OK || !bytes.Equal(got, crc.Seal(r.want)) {
			t.Errorf("Pack(%+v) = %v, %d, want %v", r.p, got, e, crc.Seal(r.want))
		}
	}
}

// P3.2, Examples: a Lock has 12 bytes; each word 8 more.
func TestPackSize(t *testing.T) {
	for words := range 5 {
		b, e := packet.Pack(api.Packet{Kind: api.Lock, Data: make([]int, words)})
		if e != api.OK || len(b) != 12+8*words {
			t.Errorf("Pack with %d Data: %d bytes, %d", words, len(b), e)
		}
	}
}

// P3.2: what is packed is what the form says, and comes out of Unpack again.
func TestPackAndUnpack(t *testing.T) {
	for _, p := range packets() {
		b, e := packet.Pack(p)
		if want := crc.Seal(bare(p)); e != api.OK || !bytes.Equal(b, want) {
			t.Errorf("Pack(%+v) = %v, %d, want %v", p, b, e, want)
		}
		back, e := packet.Unpack(b)
		if e != api.OK || !alike(back, p) || !packet.Same(back, p) {
			t.Errorf("Unpack(Pack(%+v)) = %+v, %d", p, back, e)
		}
	}
}

// P3.2: what Check refuses is not packed, and nothing is beside the error.
func TestPackRefused(t *testing.T) {
	refused := []api.Packet{{}}
	for _, f := range fields() {
		for _, v := range []int{math.MinInt, f.least - 1, f.most + 1, f.least + 1<<16, f.least + 1<<32, math.MaxInt} {
			p := some()
			*f.of(&p) = v
			refused = append(refused, p)
		}
	}
	for _, words := range []int{5, 256} {
		p := some()
		p.Data = make([]int, words)
		refused = append(refused, p)
	}
	for _, p := range refused {
		if b, e := packet.Pack(p); e != api.ErrArg || len(b) != 0 {
			t.Errorf("Pack(%+v) = %v, %d", p, b, e)
		}
	}
}

// checkForm holds Unpack of b against the error that it asks for, and nothing beside it.
func checkForm(t *testing.T, name string, b []byte) {
	t.Helper()
	if p, e := packet.Unpack(b); e != api.ErrForm || !isNothing(p) {
		t.Errorf("Unpack of %s, %v = %+v, %d", name, b, p, e)
	}
}

// P3.2: bytes that are no seal.
func TestUnpackNoSeal(t *testing.T) {
	sealed, _ := packet.Pack(some())
	checkForm(t, "nil", nil)
	checkForm(t, "the empty list", []byte{})
	checkForm(t, "a packet without its sum", bare(some()))
	checkForm(t, "a Lock without its sum", bare(least()))
	checkForm(t, "a seal with a byte behind it", append(bytes.Clone(sealed), 0))
	checkForm(t, "a seal with a byte ahead of it", append([]byte{0}, sealed...))
	for size := range len(sealed) {
		checkForm(t, "a piece of a seal", sealed[:size])
	}
	for bit := range 8 * len(sealed) {
		for _, mask := range []uint16{0x8000, 0x8001, 0xffff} {
			checkForm(t, "a spoilt seal", crc.Spoil(sealed, bit, mask))
		}
	}
}

// P3.2: seals of too few bytes, of too many, of words that are not whole.
func TestUnpackSizes(t *testing.T) {
	for _, p := range []api.Packet{some(), least(), greatest()} {
		whole := bare(p)
		for size := range len(whole) {
			checkForm(t, "a seal of a piece", crc.Seal(whole[:size]))
		}
		for more := 1; more <= 40; more++ {
			longer := append(bytes.Clone(whole), make([]byte, more)...)
			checkForm(t, "a seal of more", crc.Seal(longer))
		}
	}
	twice := crc.Seal(crc.Seal(bare(some())))
	checkForm(t, "a seal of a seal", twice)
}

// P3.2: a count of Data that does not fit the bytes, or that is too great although it fits.
func TestUnpackCount(t *testing.T) {
	for _, words := range []int{0, 1, 2, 3, 4, 5, 6, 31, 32, 33, 255, 256, 257, 260} {
		b := append(bare(least()), make([]byte, 8*words)...)
		for count := range 256 {
			b[9] = byte(count)
			if count == words && words <= 4 {
				p, e := packet.Unpack(crc.Seal(b))
				if want := (api.Packet{Kind: 1, Ptr: -1, Data: make([]int, words)}); e != api.OK || !alike(p, want) {
					t.Errorf("Unpack with %d words = %+v, %d", words, p, e)
				}
				continue
			}
			checkForm(t, fmt.Sprintf("%d words counted as %d", words, count), crc.Seal(b))
		}
	}
}

// refuses tells by the document's bounds whether no packet has v as its byte at i.
func refuses(i, v int) bool {
	bounds := [][2]int{{1, 9}, {0, 5}, {0, 5}, {0, 15}, {0, 255}, {0, 7}, {0, 6}, {0, 2}, {0, 1}}
	return v < bounds[i][0] || v > bounds[i][1]
}

// P3.2: each byte of the head at every number: the packet that it is of, or none.
func TestUnpackEachByte(t *testing.T) {
	for _, from := range []func() api.Packet{some, least, greatest} {
		for i := range 9 {
			for v := range 256 {
				b := bare(from())
				b[i] = byte(v)
				if refuses(i, v) {
					checkForm(t, fmt.Sprintf("a byte %d of %d", i, v), crc.Seal(b))
					continue
				}
				p, e := packet.Unpack(crc.Seal(b))
				if e != api.OK || !bytes.Equal(bare(p), b) {
					t.Errorf("Unpack with the byte %d of %d = %+v, %d", i, v, p, e)
				}
			}
		}
	}
}

// P3.2: Flag is told by 0 and by 1, by no other byte; Ptr None is told by 0.
func TestUnpackFlagAndPtr(t *testing.T) {
	b := []byte{8, 1, 2, 3, 4, 5, 0, 1, 0, 0}
	for v := range 256 {
		b[8] = byte(v)
		if v > 1 {
			checkForm(t, "a Flag of another byte", crc.Seal(b))
			continue
		}
		want := api.Packet{Kind: 8, From: 1, To: 2, ID: 0x0304, Line: 5, Ptr: api.None, State: 1, Flag: v == 1}
		if p, e := packet.Unpack(crc.Seal(b)); e != api.OK || !alike(p, want) {
			t.Errorf("Unpack with the Flag %d = %+v, %d", v, p, e)
		}
	}
}

// P3.2: every ID there is, and those past them that two bytes can tell.
func TestIDs(t *testing.T) {
	p := some()
	for id := range 1 << 16 {
		p.ID = id
		sealed := crc.Seal(bare(p))
		if id >= api.MaxID {
			checkForm(t, "a packet with another ID", sealed)
			continue
		}
		if got, e := packet.Unpack(sealed); e != api.OK || !alike(got, p) {
			t.Fatalf("Unpack with the ID %d = %+v, %d", id, got, e)
		}
		if got, e := packet.Pack(p); e != api.OK || !bytes.Equal(got, sealed) {
			t.Fatalf("Pack with the ID %d = %v, %d", id, got, e)
		}
	}
}

// P3.2: words of every digit: each alone, and all but it.
func TestWordsWhole(t *testing.T) {
	for i := range 64 {
		word := int(uint64(1) << i)
		p := some()
		p.Data = []int{word, ^word, word - 1, -word}
		b, e := packet.Pack(p)
		if e != api.OK || !bytes.Equal(b, crc.Seal(bare(p))) {
			t.Errorf("Pack with %v = %v, %d", p.Data, b, e)
		}
		if back, e := packet.Unpack(b); e != api.OK || !slices.Equal(back.Data, p.Data) {
			t.Errorf("Unpack with %v = %v, %d", p.Data, back.Data, e)
		}
	}
}

// P3.2: whatever is sealed: it is no packet, or just what Pack makes of the one that it is.
func FuzzUnpack(f *testing.F) {
	for _, p := range []api.Packet{some(), least(), greatest()} {
		f.Add(bare(p))
	}
	f.Add([]byte{})
	f.Add([]byte{1, 0, 0, 0, 0, 0, 0, 0, 2, 0})
	f.Fuzz(func(t *testing.T, b []byte) {
		sealed := crc.Seal(b)
		p, e := packet.Unpack(sealed)
		if e != api.OK {
			checkForm(t, "what is no packet", sealed)
			return
		}
		if again, e := packet.Pack(p); e != api.OK || !bytes.Equal(again, sealed) {
			t.Errorf("Pack(Unpack(%v)) = %v, %d", sealed, again, e)
		}
	})
}

// P3.2: packets are the same if no field differs, and then only.
func TestSame(t *testing.T) {
	list := packets()
	for _, a := range list {
		for _, b := range list {
			if got := packet.Same(a, b); got != alike(a, b) {
				t.Errorf("Same(%+v, %+v) = %v", a, b, got)
			}
		}
	}
}

// P3.2: one field that differs is enough; of packets too that Check refuses.
func TestSameEachField(t *testing.T) {
	for _, from := range []func() api.Packet{some, least, greatest, func() api.Packet { return api.Packet{} }} {
		for _, f := range fields() {
			for _, v := range beside() {
				a, b := from(), from()
				*f.of(&b) = v
				want := *f.of(&a) == v
				if packet.Same(a, b) != want || packet.Same(b, a) != want || !packet.Same(b, b) {
					t.Errorf("Same of %+v and of one with %s %d is not %v", a, f.name, v, want)
				}
			}
		}
		a, b := from(), from()
		b.Flag = !b.Flag
		if packet.Same(a, b) || packet.Same(b, a) || !packet.Same(b, b) {
			t.Errorf("Same of %+v and of one with another Flag", a)
		}
	}
}

// P3.2, R4: Data are the same word by word, nil as the empty list, memory and all behind the length aside.
func TestSameData(t *testing.T) {
	lists := [][]int{nil, {}, {0}, {0, 0}, {1}, {1, 2}, {2, 1}, {1, 2, 3}, {1, 2, 4}, {5, 2, 3}, {1, 2, 3, 0}, {1, 2, 3, 0, 0}, {math.MinInt}, {math.MaxInt}, make([]int, 300)}
	for _, x := range lists {
		for _, y := range lists {
			a, b := some(), some()
			a.Data, b.Data = x, slices.Clone(y)
			want := len(x) == len(y)
			for i := range min(len(x), len(y)) {
				want = want && x[i] == y[i]
			}
			if got := packet.Same(a, b); got != want {
				t.Errorf("Same with the Data %v and %v = %v", x, y, got)
			}
		}
	}
	a, b := some(), some()
	a.Data, b.Data = []int{1, 2, 3}[:2], []int{1, 2, 4}[:2]
	if !packet.Same(a, b) {
		t.Error("Same reads behind the length")
	}
}

// R4: packets handed in are neither changed nor kept, nor read behind their Data's length.
func TestPackMemory(t *testing.T) {
	memory := []int{1, 2, 3, 4, 5, 6}
	p := some()
	p.Data = memory[:4]
	first, e := packet.Pack(p)
	if e != api.OK || packet.Check(p) != api.OK || !packet.Same(p, p) || len(first) != 44 {
		t.Errorf("Pack = %v, %d", first, e)
	}
	if !slices.Equal(memory, []int{1, 2, 3, 4, 5, 6}) {
		t.Errorf("Data are %v", memory)
	}
	kept := bytes.Clone(first)
	second, _ := packet.Pack(p)
	for i := range second {
		second[i] ^= 0xff
	}
	memory[0] = 99
	if !bytes.Equal(first, kept) {
		t.Error("Pack's bytes are not its own")
	}
}

// R4: bytes handed in are neither changed nor kept; each packet's Data are its own.
func TestUnpackMemory(t *testing.T) {
	sealed, _ := packet.Pack(some())
	memory := append(bytes.Clone(sealed), 1, 2, 3)
	before := bytes.Clone(memory)
	first, e := packet.Unpack(memory[:len(sealed)])
	if e != api.OK || !alike(first, some()) || !bytes.Equal(memory, before) {
		t.Errorf("Unpack = %+v, %d; the bytes are %v", first, e, memory)
	}
	second, _ := packet.Unpack(memory[:len(sealed)])
	for i := range second.Data {
		second.Data[i] = 99
	}
	for i := range memory {
		memory[i] = 0
	}
	if !alike(first, some()) {
		t.Errorf("the packet is %+v now", first)
	}
}

// R5: a call's answer does not hang on the calls ahead of it.
func TestAnswersStay(t *testing.T) {
	sealed := crc.Seal(bare(some()))
	for range 3 {
		packet.Pack(greatest())
		packet.Unpack(crc.Seal(bare(greatest())))
		checkForm(t, "nothing", nil)
		if b, e := packet.Pack(some()); e != api.OK || !bytes.Equal(b, sealed) {
			t.Errorf("Pack = %v, %d", b, e)
		}
		if p, e := packet.Unpack(sealed); e != api.OK || !alike(p, some()) {
			t.Errorf("Unpack = %+v, %d", p, e)
		}
		if packet.Check(api.Packet{}) != api.ErrArg || packet.Check(least()) != api.OK {
			t.Error("Check")
		}
	}
}
