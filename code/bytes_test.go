package code_test

import (
	"bytes"
	"encoding/hex"
	"reflect"
	"slices"
	"strings"
	"testing"

	"cachet/api"
	"cachet/code"
)

// all is an extension that has each Op once.
var all = api.Program{Context: 256, Ins: []api.Ins{
	{Op: api.OpMovi, Dst: 9, Imm: 4294967295},
	{Op: api.OpMov, Dst: 1, Src: 2},
	{Op: api.OpAddi, Dst: 3, Imm: 1},
	{Op: api.OpAdd, Dst: 4, Src: 5},
	{Op: api.OpSub, Dst: 6, Src: 7},
	{Op: api.OpMuli, Dst: 8, Imm: 258},
	{Op: api.OpMul, Dst: 9, Src: 9},
	{Op: api.OpAndi, Imm: 65280},
	{Op: api.OpAnd, Src: 1},
	{Op: api.OpOr, Dst: 2, Src: 3},
	{Op: api.OpXor, Dst: 4, Src: 4},
	{Op: api.OpShli, Dst: 5, Imm: 31},
	{Op: api.OpShri, Dst: 6},
	{Op: api.OpDiv, Dst: 7, Src: 8},
	{Op: api.OpMod, Dst: 8, Src: 7},
	{Op: api.OpLdc, Dst: 1, Off: -32768},
	{Op: api.OpLds, Dst: 1, Src: 2, Off: -1},
	{Op: api.OpSts, Dst: 2, Src: 1, Off: 32767},
	{Op: api.OpJa, Off: 255},
	{Op: api.OpJeqi, Dst: 3, Off: 4, Imm: 305419896},
	{Op: api.OpJlti, Dst: 4, Imm: 2147483648},
	{Op: api.OpJlt, Dst: 5, Src: 6, Off: 7},
	{Op: api.OpCall, Imm: 7},
	{Op: api.OpExit},
}}

// allBytes are its bytes, worked out elsewhere.
const allBytes = "435800011800" +
	"01900000ffffffff" + "0212000000000000" + "0330000001000000" + "0445000000000000" +
	"0567000000000000" + "0680000002010000" + "0799000000000000" + "0800000000ff0000" +
	"0901000000000000" + "0a23000000000000" + "0b44000000000000" + "0c5000001f000000" +
	"0d60000000000000" + "0e78000000000000" + "0f87000000000000" + "1010008000000000" +
	"1112ffff00000000" + "1221ff7f00000000" + "1300ff0000000000" + "1430040078563412" +
	"1540000000000080" + "1656070000000000" + "1700000007000000" + "1800000000000000"

// none tells whether an extension is the zero one.
func none(p api.Program) bool { return p.Context == 0 && p.Ins == nil }

// same tells whether two extensions are the same; no instructions are so, nil or empty.
func same(p, q api.Program) bool { return p.Context == q.Context && slices.Equal(p.Ins, q.Ins) }

// P5.1: the document's example, an extension without instructions, and one with each Op.
func TestEncodeKnown(t *testing.T) {
	for _, c := range []struct {
		p    api.Program
		want string
	}{
		{api.Program{Ins: []api.Ins{{Op: api.OpMovi, Imm: 7}, {Op: api.OpExit}}}, "435800000200" + "0100000007000000" + "1800000000000000"},
		{api.Program{}, "435800000000"},
		{api.Program{Context: 255, Ins: []api.Ins{}}, "4358ff000000"},
		{api.Program{Context: 256}, "435800010000"},
		{all, allBytes},
	} {
		b, e := code.Encode(c.p)
		if e != api.OK || hex.EncodeToString(b) != c.want {
			t.Errorf("%+v: %x %v, want %s", c.p, b, e, c.want)
		}
		p, e := code.Decode(b)
		if e != api.OK || !same(p, c.p) {
			t.Errorf("%x: %+v %v, want %+v", b, p, e, c.p)
		}
	}
}

// P5.1: no bytes beside an error, whichever part may not be.
func TestEncodeRefused(t *testing.T) {
	around(func(i api.Ins) {
		p := api.Program{Ins: []api.Ins{{Op: api.OpExit}, i}}
		b, e := code.Encode(p)
		if !mayBe(i) && (b != nil || e != api.ErrArg) {
			t.Fatalf("%+v: %x %v", i, b, e)
		}
		if mayBe(i) && (e != api.OK || !bytes.Equal(b, bytesOf(p))) {
			t.Fatalf("%+v: %x %v, want %x", i, b, e, bytesOf(p))
		}
	})
}

// P5.1: as many instructions as may be, and their number in two bytes.
func TestEncodeMany(t *testing.T) {
	for _, n := range []int{1, 2, 255, 256} {
		p := api.Program{Context: n, Ins: many(n)}
		b, e := code.Encode(p)
		if e != api.OK || !bytes.Equal(b, bytesOf(p)) {
			t.Errorf("%d: %d bytes, %v", n, len(b), e)
		}
		if q, e := code.Decode(b); e != api.OK || !same(p, q) {
			t.Errorf("%d: %v", n, e)
		}
	}
}

// P5.1: an extension of one instruction, from its bytes: each Op and registers in all ways, Off and Imm at their bounds. Encode gives the same bytes again (P5.3).
func TestDecodeOfInstructions(t *testing.T) {
	look := func(op, registers byte, off uint16, imm uint32) {
		b := append(headOf(3, 1), eight(op, registers, off, imm)...)
		i := api.Ins{Op: api.Op(op), Dst: int(registers >> 4), Src: int(registers & 15), Off: int(int16(off)), Imm: imm}
		p, e := code.Decode(b)
		if !mayBe(i) {
			if e != api.ErrArg || !none(p) {
				t.Fatalf("%x: %+v %v", b, p, e)
			}
			return
		}
		if e != api.OK || !same(p, api.Program{Context: 3, Ins: []api.Ins{i}}) {
			t.Fatalf("%x: %+v %v, want %+v", b, p, e, i)
		}
		if again, e := code.Encode(p); e != api.OK || !bytes.Equal(again, b) {
			t.Fatalf("%x: %x %v", b, again, e)
		}
	}
	offs := []uint16{0, 1, 254, 255, 256, 32767, 32768, 32769, 65280, 65534, 65535}
	for op := range 256 {
		for registers := range 256 {
			look(byte(op), byte(registers), 0, 0)
		}
		for _, registers := range []byte{0, 0x01, 0x10, 0x99, 0x9a, 0xa9, 0xff} {
			for _, off := range offs {
				for _, imm := range immsAround {
					look(byte(op), registers, off, imm)
				}
			}
		}
	}
}

// P5.1: Off below 0, by hand: memory goes back, jumps do not.
func TestDecodeBelow(t *testing.T) {
	for _, c := range []struct {
		ins  string
		off  int
		want api.Errno
	}{
		{"1112ffff00000000", -1, api.OK},
		{"1000008000000000", -32768, api.OK},
		{"1200ff7f00000000", 32767, api.OK},
		{"1300ffff00000000", 0, api.ErrArg},
		{"1400008000000000", 0, api.ErrArg},
		{"1500000100000000", 0, api.ErrArg},
		{"1600ff0000000000", 255, api.OK},
		{"0100ffff00000000", 0, api.ErrArg},
	} {
		b, _ := hex.DecodeString("435800000100" + c.ins)
		p, e := code.Decode(b)
		if e != c.want || e == api.OK && p.Ins[0].Off != c.off || e != api.OK && !none(p) {
			t.Errorf("%s: %+v %v", c.ins, p, e)
		}
	}
}

// P5.1: bytes that are none of an extension: what does not begin with CX, what is cut at any place, what goes on.
func TestDecodeNoBytes(t *testing.T) {
	whole, _ := hex.DecodeString(allBytes)
	refused := func(b []byte, why string) {
		if p, e := code.Decode(b); e != api.ErrBytes || !none(p) {
			t.Errorf("%s: %+v %v", why, p, e)
		}
	}
	refused(nil, "nil")
	refused([]byte{}, "empty")
	for n := range whole {
		refused(whole[:n], "cut")
		refused(whole[n+1:], "cut ahead")
	}
	for n := 1; n <= 17; n++ {
		refused(append(slices.Clone(whole), make([]byte, n)...), "goes on")
	}
	for at := range 2 {
		for x := range 256 {
			if b := slices.Clone(whole); b[at] != byte(x) {
				b[at] = byte(x)
				refused(b, "not CX")
			}
		}
	}
	for _, s := range []string{"XC\x00\x00\x00\x00", "cx\x00\x00\x00\x00", "CX", "CX\x00\x00\x00", "CX\x00\x00\x01\x00", "CX\x00\x00\x00\x01", "CX\x00\x00\x00\x00\x00", strings.Repeat("\xff", 14)} {
		refused([]byte(s), hex.EncodeToString([]byte(s)))
	}
}

// P5.1: how many instructions bytes say, both bytes of it, against how many there are.
func TestDecodeOfCounts(t *testing.T) {
	for _, there := range []int{0, 1, 2, 255, 256, 257, 300, 512, 65535} {
		for _, told := range []int{0, 1, 2, 255, 256, 257, 300, 512, 65279, 65535} {
			b := append(headOf(0, told), bytesOf(api.Program{Ins: many(there)})[6:]...)
			want := api.OK
			switch {
			case told != there:
				want = api.ErrBytes
			case told > api.MaxCode:
				want = api.ErrLong
			}
			p, e := code.Decode(b)
			if e != want || e == api.OK && len(p.Ins) != there || e != api.OK && !none(p) {
				t.Errorf("%d told, %d there: %d %v, want %v", told, there, len(p.Ins), e, want)
			}
		}
	}
	// 65536 instructions have a number of which two bytes say 0.
	if _, e := code.Decode(append(headOf(0, 0), make([]byte, 8*65536)...)); e != api.ErrBytes {
		t.Errorf("65536: %v", e)
	}
}

// P5.1: of bytes, a context's size in two bytes.
func TestDecodeOfContexts(t *testing.T) {
	for context := range 65536 {
		want := api.OK
		if context > api.MaxContext {
			want = api.ErrArg
		}
		p, e := code.Decode(headOf(context, 0))
		if e != want || e == api.OK && p.Context != context || len(p.Ins) != 0 {
			t.Fatalf("%d: %+v %v, want %v", context, p, e, want)
		}
	}
}

// P5.1: of bytes, ErrBytes is ahead of ErrArg, ErrArg ahead of ErrLong.
func TestDecodeOrder(t *testing.T) {
	bad := many(300)
	bad[299].Imm, bad[299].Op = 9, api.OpCall
	for _, c := range []struct {
		why  string
		b    []byte
		want api.Errno
	}{
		{"all wrong", bytesOf(api.Program{Context: 257, Ins: bad})[1:], api.ErrBytes},
		{"one byte more", append(bytesOf(api.Program{Context: 257, Ins: bad}), 0), api.ErrBytes},
		{"one byte fewer", bytesOf(api.Program{Context: 257, Ins: bad})[:6+8*300-1], api.ErrBytes},
		{"not CX", append([]byte("CY"), bytesOf(api.Program{Ins: bad})[2:]...), api.ErrBytes},
		{"too long, and cut", bytesOf(api.Program{Ins: many(300)})[:6+8*299], api.ErrBytes},
		{"context, too long", bytesOf(api.Program{Context: 257, Ins: many(300)}), api.ErrArg},
		{"instruction, too long", bytesOf(api.Program{Ins: bad}), api.ErrArg},
		{"too long", bytesOf(api.Program{Context: 256, Ins: many(257)}), api.ErrLong},
		{"context", bytesOf(api.Program{Context: 257, Ins: many(256)}), api.ErrArg},
	} {
		if p, e := code.Decode(c.b); e != c.want || !none(p) {
			t.Errorf("%s: %v, want %v", c.why, e, c.want)
		}
	}
}

// P5.3: Decode of Encode is the extension, Encode of Decode the bytes, for extensions made of all that may be around the bounds.
func TestBothWays(t *testing.T) {
	list := good()
	if len(list) < 1000 {
		t.Fatalf("only %d", len(list))
	}
	for n := 0; len(list) > 0; n++ {
		p := api.Program{Context: n % 257, Ins: list[:min(len(list), 1+n%api.MaxCode)]}
		list = list[len(p.Ins):]
		b, e := code.Encode(p)
		if e != api.OK || !bytes.Equal(b, bytesOf(p)) {
			t.Fatalf("%+v: %x %v", p, b, e)
		}
		q, e := code.Decode(b)
		if e != api.OK || !reflect.DeepEqual(p, q) {
			t.Fatalf("%+v: %+v %v", p, q, e)
		}
		if again, e := code.Encode(q); e != api.OK || !bytes.Equal(again, b) {
			t.Fatalf("%x: %x %v", b, again, e)
		}
	}
}

// P5.3: whatever bytes are taken, these are what Encode gives: each byte of an extension's, each in all ways.
func TestBytesAreTold(t *testing.T) {
	whole, _ := hex.DecodeString(allBytes)
	for at := range whole {
		for x := range 256 {
			b := slices.Clone(whole)
			b[at] = byte(x)
			p, e := code.Decode(b)
			if e != api.OK {
				continue
			}
			if again, e := code.Encode(p); e != api.OK || !bytes.Equal(again, b) {
				t.Fatalf("%x: %x %v", b, again, e)
			}
		}
	}
}
