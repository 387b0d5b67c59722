package code_test

import (
	"math"
	"testing"

	"cachet/api"
	"cachet/code"
)

// P5.1: an instruction may be or not, each part at its bounds and beside them.
func TestCheckOfInstructions(t *testing.T) {
	around(func(i api.Ins) {
		want := api.ErrArg
		if mayBe(i) {
			want = api.OK
		}
		if e := code.Check(api.Program{Ins: []api.Ins{i}}); e != want {
			t.Fatalf("%+v: %v, want %v", i, e, want)
		}
	})
}

// P5.1: the bounds of each part, by hand.
func TestCheckOfParts(t *testing.T) {
	for _, c := range []struct {
		i    api.Ins
		want api.Errno
	}{
		{api.Ins{}, api.ErrArg},
		{api.Ins{Op: 25}, api.ErrArg},
		{api.Ins{Op: -1}, api.ErrArg},
		{api.Ins{Op: api.OpMov, Dst: 9, Src: 9}, api.OK},
		{api.Ins{Op: api.OpMov, Dst: 10, Src: 9}, api.ErrArg},
		{api.Ins{Op: api.OpMov, Dst: 9, Src: 10}, api.ErrArg},
		{api.Ins{Op: api.OpMov, Dst: -1}, api.ErrArg},
		{api.Ins{Op: api.OpMov, Src: -1}, api.ErrArg},
		{api.Ins{Op: api.OpMov, Imm: 1}, api.ErrArg},
		{api.Ins{Op: api.OpMov, Off: 1}, api.ErrArg},
		{api.Ins{Op: api.OpMovi, Imm: math.MaxUint32}, api.OK},
		{api.Ins{Op: api.OpMovi, Src: 1}, api.ErrArg},
		{api.Ins{Op: api.OpMovi, Off: -1}, api.ErrArg},
		{api.Ins{Op: api.OpLdc, Off: -32768}, api.OK},
		{api.Ins{Op: api.OpLdc, Off: -32769}, api.ErrArg},
		{api.Ins{Op: api.OpLds, Off: 32767}, api.OK},
		{api.Ins{Op: api.OpLds, Off: 32768}, api.ErrArg},
		{api.Ins{Op: api.OpSts, Imm: 1}, api.ErrArg},
		{api.Ins{Op: api.OpJa, Off: 255}, api.OK},
		{api.Ins{Op: api.OpJa, Off: 256}, api.ErrArg},
		{api.Ins{Op: api.OpJa, Off: -1}, api.ErrArg},
		{api.Ins{Op: api.OpJa, Dst: 1}, api.ErrArg},
		{api.Ins{Op: api.OpJeqi, Off: 255, Imm: math.MaxUint32}, api.OK},
		{api.Ins{Op: api.OpJlti, Off: 256}, api.ErrArg},
		{api.Ins{Op: api.OpJlt, Src: 9, Off: 255}, api.OK},
		{api.Ins{Op: api.OpJlt, Imm: 1}, api.ErrArg},
		{api.Ins{Op: api.OpShli, Imm: 31}, api.OK},
		{api.Ins{Op: api.OpShli, Imm: 32}, api.ErrArg},
		{api.Ins{Op: api.OpShri, Imm: 31}, api.OK},
		{api.Ins{Op: api.OpShri, Imm: 32}, api.ErrArg},
		{api.Ins{Op: api.OpCall, Imm: api.Helpers - 1}, api.OK},
		{api.Ins{Op: api.OpCall, Imm: api.Helpers}, api.ErrArg},
		{api.Ins{Op: api.OpCall, Dst: 1}, api.ErrArg},
		{api.Ins{Op: api.OpExit}, api.OK},
		{api.Ins{Op: api.OpExit, Dst: 1}, api.ErrArg},
		{api.Ins{Op: api.OpExit, Src: 1}, api.ErrArg},
		{api.Ins{Op: api.OpExit, Off: 1}, api.ErrArg},
		{api.Ins{Op: api.OpExit, Imm: 1}, api.ErrArg},
	} {
		if e := code.Check(api.Program{Ins: []api.Ins{c.i}}); e != c.want {
			t.Errorf("%+v: %v, want %v", c.i, e, c.want)
		}
	}
}

// contextsAround are sizes of a context, and whether they may be.
var contextsAround = map[int]bool{
	math.MinInt: false, -65536: false, -1: false,
	0: true, 1: true, 255: true, 256: true,
	257: false, 65535: false, 65536: false, 1 << 32: false, math.MaxInt: false,
}

// P5.1: a context's size, with instructions and without.
func TestCheckOfContexts(t *testing.T) {
	for context, may := range contextsAround {
		for _, list := range [][]api.Ins{nil, {}, many(1), many(api.MaxCode)} {
			want := api.ErrArg
			if may {
				want = api.OK
			}
			p := api.Program{Context: context, Ins: list}
			if e := code.Check(p); e != want {
				t.Errorf("context %d, %d instructions: %v, want %v", context, len(list), e, want)
			}
			if b, e := code.Encode(p); e != want || may == (b == nil) {
				t.Errorf("context %d, %d instructions: %x %v, want %v", context, len(list), b, e, want)
			}
		}
	}
}

// P5.1: how many instructions there may be; what may not be is told ahead of what is too long, wherever it stands.
func TestCheckOfMany(t *testing.T) {
	for _, c := range []struct{ n, bad, context int }{
		{0, -1, 0}, {1, -1, 0}, {255, -1, 0}, {256, -1, 256}, {257, -1, 0}, {300, -1, 256}, {65536, -1, 0}, {65537, -1, 0},
		{256, 0, 0}, {256, 255, 0}, {257, 0, 0}, {257, 256, 0}, {300, 0, 0}, {300, 150, 0}, {300, 255, 0}, {300, 256, 0}, {300, 299, 0}, {65537, 65536, 0},
		{256, -1, 257}, {257, -1, 257}, {300, -1, -1}, {300, 299, 257},
	} {
		p := api.Program{Context: c.context, Ins: many(c.n)}
		want := api.OK
		if c.n > api.MaxCode {
			want = api.ErrLong
		}
		if c.bad >= 0 {
			p.Ins[c.bad].Dst = 10
			want = api.ErrArg
		}
		if c.context < 0 || c.context > api.MaxContext {
			want = api.ErrArg
		}
		if e := code.Check(p); e != want {
			t.Errorf("%+v: %v, want %v", c, e, want)
		}
		if b, e := code.Encode(p); e != want || e != api.OK && b != nil {
			t.Errorf("%+v: %d bytes, %v, want %v", c, len(b), e, want)
		}
	}
}
