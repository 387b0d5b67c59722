package check_test

import (
	"math"
	"testing"

	"cachet/api"
	"cachet/check"
)

// edges are words at which something changes, and those beside them.
var edges = []uint32{0, 1, 2, 3, 7, 8, 62, 63, 64, 65, 255, 256, 65535, 65536, 1<<31 - 1, 1 << 31, greatest - 1, greatest}

// ranges are all ranges from one edge to another, and that nothing is known.
func ranges() []api.Range {
	l := []api.Range{unknown}
	for n, least := range edges {
		for _, great := range edges[n:] {
			l = append(l, between(least, great))
		}
	}
	return l
}

// hold holds Behind against the model.
func hold(t *testing.T, i api.Ins, context int, k api.Known) {
	t.Helper()
	next, jumped, e := check.Behind(i, context, k)
	wantNext, wantJumped, want := behindOf(i, context, k)
	if next != wantNext || jumped != wantJumped || e != want {
		t.Fatalf("%+v, context %d, of %v:\n%v %v %v, want\n%v %v %v", i, context, k, next, jumped, e, wantNext, wantJumped, want)
	}
}

// P6.2: each Op of two registers, or of one twice, over all ranges between edges.
func TestBehindOfTwo(t *testing.T) {
	for op := api.OpMovi; op <= api.OpExit; op++ {
		if !ofTwo(op) {
			continue
		}
		for _, d := range ranges() {
			hold(t, api.Ins{Op: op, Dst: dst, Src: dst}, 64, put(crowd(), dst, d))
			for _, s := range ranges() {
				hold(t, of(op, 0), 64, put(put(crowd(), dst, d), src, s))
			}
		}
	}
}

// P6.2: each Op of a register and Imm, and those of none, over all ranges between edges.
func TestBehindOfOne(t *testing.T) {
	for _, d := range ranges() {
		for _, imm := range edges {
			for _, op := range []api.Op{api.OpMovi, api.OpAddi, api.OpMuli, api.OpAndi, api.OpJeqi, api.OpJlti} {
				hold(t, of(op, imm), 0, put(crowd(), dst, d))
			}
		}
		for imm := range uint32(32) {
			hold(t, of(api.OpShli, imm), 0, put(crowd(), dst, d))
			hold(t, of(api.OpShri, imm), 0, put(crowd(), dst, d))
		}
		for n := range api.Registers {
			k := put(crowd(), n, d)
			hold(t, api.Ins{Op: api.OpJa, Off: 3}, 0, k)
			hold(t, api.Ins{Op: api.OpCall, Imm: 7}, 0, k)
			hold(t, exit, 0, k)
		}
	}
}

// P6.2: each place of memory, of contexts of each kind.
func TestBehindOfMemory(t *testing.T) {
	for _, op := range []api.Op{api.OpLdc, api.OpLds, api.OpSts} {
		for _, context := range []int{0, 1, 2, 63, 64, 65, 255, 256} {
			for _, off := range []int{-32768, -32767, -256, -64, -2, -1, 0, 1, 2, 62, 63, 64, 255, 256, 32767} {
				for _, r := range ranges() {
					i := of(op, 0)
					i.Off = off
					hold(t, i, context, put(put(crowd(), src, r), dst, only(1)))
					hold(t, i, context, put(put(crowd(), dst, r), src, only(1)))
				}
			}
		}
	}
}

// P6.2: all pairs of registers, the other ones stay.
func TestBehindOfRegisters(t *testing.T) {
	full := put(crowd(), 9, between(5, 6))
	for op := api.OpMovi; op <= api.OpExit; op++ {
		for d := range api.Registers {
			for s := range api.Registers {
				i := api.Ins{Op: op, Dst: d, Src: s}
				switch {
				case op == api.OpJa || op == api.OpCall || op == api.OpExit:
					i.Dst, i.Src = 0, 0
				case !ofTwo(op):
					i.Src, i.Imm = 0, uint32(100*s+3)%32
				}
				for _, k := range []api.Known{full, crowd(), put(put(full, d, only(20)), s, between(20, 30))} {
					hold(t, i, 256, k)
				}
			}
		}
	}
}

// P6.2: instructions, contexts' sizes, ranges that may not be; whatever else is wrong, and be it come to or not.
func TestBehindRefuses(t *testing.T) {
	refuse := func(i api.Ins, context int, k api.Known) {
		t.Helper()
		for _, come := range []bool{true, false} {
			k.Come = come
			if next, jumped, e := check.Behind(i, context, k); e != api.ErrArg || next != nowhere || jumped != nowhere {
				t.Errorf("%+v, context %d, of %v: %v %v %v", i, context, k, next, jumped, e)
			}
		}
	}
	for _, i := range []api.Ins{
		{}, {Op: -1}, {Op: 25}, {Op: math.MaxInt}, {Op: math.MinInt},
		{Op: api.OpMov, Dst: 10}, {Op: api.OpMov, Src: -1}, {Op: api.OpMov, Imm: 1}, {Op: api.OpShli, Imm: 32}, {Op: api.OpShri, Imm: greatest},
		{Op: api.OpCall, Imm: api.Helpers}, {Op: api.OpLdc, Off: 32768}, {Op: api.OpJa, Off: 256}, {Op: api.OpJeqi, Off: -1},
		{Op: api.OpExit, Dst: 1}, {Op: api.OpDiv, Dst: math.MaxInt}, {Op: api.OpSts, Src: math.MinInt},
	} {
		refuse(i, 0, crowd())
		refuse(i, 0, api.Known{})
	}
	for _, context := range []int{math.MinInt, -1, 257, 65536, math.MaxInt} {
		refuse(exit, context, crowd())
		refuse(of(api.OpLdc, 0), context, api.Known{})
	}
	for _, r := range []api.Range{
		between(1, 0), between(greatest, 0), between(greatest, greatest-1), between(8, 7),
		{Least: 1}, {Great: 1}, {Least: 1, Great: 1}, {Great: greatest}, {Least: 5, Great: 4},
	} {
		for n := range api.Registers {
			refuse(api.Ins{Op: api.OpJa}, 0, put(crowd(), n, r))
			refuse(exit, 0, put(api.Known{}, n, r))
			refuse(of(api.OpDiv, 0), 0, put(put(crowd(), src, only(0)), n, r))
		}
	}
}

// P6.2: behind what is not come to is neither way, whatever is known, and nothing is wrong there.
func TestBehindNotCome(t *testing.T) {
	some := crowd()
	some.Come = false
	zeros := api.Known{}
	for n := range zeros.Regs {
		zeros.Regs[n] = only(0)
	}
	for op := api.OpMovi; op <= api.OpExit; op++ {
		i := api.Ins{Op: op}
		for _, k := range []api.Known{{}, some, zeros} {
			if next, jumped, e := check.Behind(i, 0, k); e != api.OK || next != nowhere || jumped != nowhere {
				t.Errorf("%+v of %v: %v %v %v", i, k, next, jumped, e)
			}
		}
	}
}
