package check_test

import (
	"testing"

	"cachet/api"
	"cachet/check"
)

// D and S of these tests, where they are two registers.
const (
	dst = 3
	src = 7
)

// of is an instruction over D and S, or over D and Imm, by what its Op uses.
func of(op api.Op, imm uint32) api.Ins {
	i := api.Ins{Op: op, Dst: dst, Imm: imm}
	if ofTwo(op) {
		i.Src, i.Imm = src, 0
	}
	return i
}

// P6.2: what each Op makes of D and S, worked out by hand; all else is as it was.
func TestBehindMade(t *testing.T) {
	for _, c := range []struct {
		op         api.Op
		d, s, want api.Range
	}{
		{api.OpMovi, unknown, only(0), only(0)},
		{api.OpMovi, between(1, 2), only(greatest), only(greatest)},
		{api.OpMov, unknown, between(3, 9), between(3, 9)},
		{api.OpMov, between(1, 2), anyWord, anyWord},

		{api.OpAddi, between(1, 5), only(3), between(4, 8)},
		{api.OpAddi, between(0, greatest-3), only(3), between(3, greatest)},
		{api.OpAddi, between(0, greatest-2), only(3), anyWord},
		{api.OpAddi, only(greatest), only(1), anyWord},
		{api.OpAddi, anyWord, only(0), anyWord},
		{api.OpAddi, only(greatest), only(greatest), anyWord},
		{api.OpAdd, between(1, 5), between(10, 20), between(11, 25)},
		{api.OpAdd, between(1, 1<<31), between(2, 1<<31-1), between(3, greatest)},
		{api.OpAdd, between(1, 1<<31), between(2, 1<<31), anyWord},
		{api.OpAdd, between(1, 2), between(0, greatest), anyWord},

		{api.OpSub, between(10, 20), between(3, 4), between(6, 17)},
		{api.OpSub, between(10, 20), between(3, 10), between(0, 17)},
		{api.OpSub, between(10, 20), between(3, 11), anyWord},
		{api.OpSub, only(0), only(0), only(0)},
		{api.OpSub, only(0), only(1), anyWord},
		{api.OpSub, only(greatest), anyWord, between(0, greatest)},
		{api.OpSub, between(greatest-1, greatest), between(0, 1), between(greatest-2, greatest)},

		{api.OpMuli, between(2, 3), only(5), between(10, 15)},
		{api.OpMuli, between(1, 65535), only(65537), between(65537, greatest)},
		{api.OpMuli, between(1, 65536), only(65537), anyWord},
		{api.OpMuli, between(1, 65536), only(65536), anyWord},
		{api.OpMuli, anyWord, only(0), only(0)},
		{api.OpMuli, anyWord, only(1), anyWord},
		{api.OpMul, between(2, 3), between(5, 7), between(10, 21)},
		{api.OpMul, between(3, 65535), between(4, 65537), between(12, greatest)},
		{api.OpMul, between(3, 65536), between(4, 65536), anyWord},
		{api.OpMul, between(0, greatest), between(0, greatest), anyWord},
		{api.OpMul, between(greatest, greatest), between(greatest, greatest), anyWord},

		{api.OpAndi, between(5, 20), only(15), between(0, 15)},
		{api.OpAndi, between(5, 20), only(21), between(0, 20)},
		{api.OpAndi, only(6), only(6), between(0, 6)},
		{api.OpAndi, anyWord, only(0), only(0)},
		{api.OpAnd, between(5, 20), between(7, 19), between(0, 19)},
		{api.OpAnd, between(5, 20), between(30, 40), between(0, 20)},

		{api.OpOr, only(0), only(0), only(0)},
		{api.OpOr, between(0, 1), only(0), between(0, 1)},
		{api.OpOr, between(5, 6), between(2, 7), between(5, 7)},
		{api.OpOr, between(2, 3), between(1, 8), between(2, 15)},
		{api.OpOr, between(1, 15), between(3, 9), between(3, 15)},
		{api.OpOr, between(1, 1<<31-1), only(4), between(4, 1<<31-1)},
		{api.OpOr, between(1, 1<<31), only(4), between(4, greatest)},
		{api.OpOr, anyWord, anyWord, anyWord},
		{api.OpXor, only(0), only(0), only(0)},
		{api.OpXor, between(5, 6), between(2, 7), between(0, 7)},
		{api.OpXor, between(2, 8), between(1, 3), between(0, 15)},
		{api.OpXor, only(4), only(4), between(0, 7)},
		{api.OpXor, between(1, greatest), only(4), anyWord},

		{api.OpShli, between(3, 5), only(4), between(48, 80)},
		{api.OpShli, between(0, 1), only(31), between(0, 1<<31)},
		{api.OpShli, between(1, 2), only(31), anyWord},
		{api.OpShli, between(1, 1<<16-1), only(16), between(1<<16, greatest-65535)},
		{api.OpShli, between(1, 1<<16), only(16), anyWord},
		{api.OpShli, anyWord, only(0), anyWord},
		{api.OpShri, between(48, 95), only(4), between(3, 5)},
		{api.OpShri, between(7, 8), only(3), between(0, 1)},
		{api.OpShri, anyWord, only(31), between(0, 1)},
		{api.OpShri, between(3, 9), only(0), between(3, 9)},

		{api.OpDiv, between(20, 41), only(1), between(20, 41)},
		{api.OpDiv, between(20, 41), between(1, 7), between(2, 41)},
		{api.OpDiv, between(20, 41), between(3, 21), between(0, 13)},
		{api.OpDiv, anyWord, between(1, greatest), anyWord},
		{api.OpDiv, only(greatest), only(greatest), only(1)},
		{api.OpMod, between(20, 41), only(1), only(0)},
		{api.OpMod, between(20, 41), between(1, 42), between(0, 41)},
		{api.OpMod, between(20, 41), between(5, 41), between(0, 40)},
		{api.OpMod, only(0), between(1, greatest), only(0)},
		{api.OpMod, anyWord, between(1, greatest), between(0, greatest-1)},

		{api.OpLdc, unknown, between(0, 99), aByte},
		{api.OpLdc, between(300, 400), between(0, 99), aByte},
		{api.OpLds, unknown, between(0, 63), aByte},
		{api.OpSts, between(0, 63), anyWord, between(0, 63)},
	} {
		i := of(c.op, c.s.Least)
		k := put(crowd(), dst, c.d)
		if ofTwo(c.op) {
			k = put(k, src, c.s)
		}
		next, jumped, e := check.Behind(i, 100, k)
		if e != api.OK || next != put(k, dst, c.want) || jumped != nowhere {
			t.Errorf("%+v of %v, %v: %v %v %v, want %v", i, c.d, c.s, next, jumped, e, c.want)
		}
	}
}

// P6.2: of one register that is both, what is known of each is taken by itself.
func TestBehindMadeOfOne(t *testing.T) {
	for _, c := range []struct {
		op         api.Op
		both, want api.Range
	}{
		{api.OpMov, between(2, 5), between(2, 5)},
		{api.OpAdd, between(2, 5), between(4, 10)},
		{api.OpSub, between(2, 5), anyWord},
		{api.OpSub, only(5), only(0)},
		{api.OpMul, between(2, 5), between(4, 25)},
		{api.OpAnd, between(2, 5), between(0, 5)},
		{api.OpOr, between(2, 5), between(2, 7)},
		{api.OpXor, between(2, 5), between(0, 7)},
		{api.OpDiv, between(2, 5), between(0, 2)},
		{api.OpMod, between(2, 5), between(0, 4)},
		{api.OpLdc, between(2, 5), aByte},
		{api.OpLds, between(2, 5), aByte},
		{api.OpSts, between(2, 5), between(2, 5)},
	} {
		k := put(crowd(), dst, c.both)
		next, jumped, e := check.Behind(api.Ins{Op: c.op, Dst: dst, Src: dst}, 100, k)
		if e != api.OK || next != put(k, dst, c.want) || jumped != nowhere {
			t.Errorf("%d of %v: %v %v %v, want %v", c.op, c.both, next, jumped, e, c.want)
		}
	}
}

// way is one way of a jump: what is known of D and S there, or that it is not gone.
type way struct{ d, s api.Range }

var not = way{}

// P6.2: both ways of each jump, worked out by hand.
func TestBehindJumps(t *testing.T) {
	for _, c := range []struct {
		op           api.Op
		d, s         api.Range
		next, jumped way
	}{
		{api.OpJeqi, between(10, 20), only(9), way{d: between(10, 20)}, not},
		{api.OpJeqi, between(10, 20), only(10), way{d: between(11, 20)}, way{d: only(10)}},
		{api.OpJeqi, between(10, 20), only(11), way{d: between(10, 20)}, way{d: only(11)}},
		{api.OpJeqi, between(10, 20), only(19), way{d: between(10, 20)}, way{d: only(19)}},
		{api.OpJeqi, between(10, 20), only(20), way{d: between(10, 19)}, way{d: only(20)}},
		{api.OpJeqi, between(10, 20), only(21), way{d: between(10, 20)}, not},
		{api.OpJeqi, only(10), only(10), not, way{d: only(10)}},
		{api.OpJeqi, only(10), only(9), way{d: only(10)}, not},
		{api.OpJeqi, only(10), only(11), way{d: only(10)}, not},
		{api.OpJeqi, between(10, 11), only(10), way{d: only(11)}, way{d: only(10)}},
		{api.OpJeqi, between(10, 11), only(11), way{d: only(10)}, way{d: only(11)}},
		{api.OpJeqi, anyWord, only(0), way{d: between(1, greatest)}, way{d: only(0)}},
		{api.OpJeqi, anyWord, only(greatest), way{d: between(0, greatest-1)}, way{d: only(greatest)}},
		{api.OpJeqi, only(0), only(0), not, way{d: only(0)}},
		{api.OpJeqi, only(greatest), only(greatest), not, way{d: only(greatest)}},

		{api.OpJlti, between(10, 20), only(0), way{d: between(10, 20)}, not},
		{api.OpJlti, between(10, 20), only(9), way{d: between(10, 20)}, not},
		{api.OpJlti, between(10, 20), only(10), way{d: between(10, 20)}, not},
		{api.OpJlti, between(10, 20), only(11), way{d: between(11, 20)}, way{d: only(10)}},
		{api.OpJlti, between(10, 20), only(15), way{d: between(15, 20)}, way{d: between(10, 14)}},
		{api.OpJlti, between(10, 20), only(20), way{d: only(20)}, way{d: between(10, 19)}},
		{api.OpJlti, between(10, 20), only(21), not, way{d: between(10, 20)}},
		{api.OpJlti, between(10, 20), only(22), not, way{d: between(10, 20)}},
		{api.OpJlti, anyWord, only(0), way{d: anyWord}, not},
		{api.OpJlti, anyWord, only(greatest), way{d: only(greatest)}, way{d: between(0, greatest-1)}},
		{api.OpJlti, only(greatest), only(greatest), way{d: only(greatest)}, not},

		{api.OpJlt, between(10, 20), between(1, 9), way{between(10, 20), between(1, 9)}, not},
		{api.OpJlt, between(10, 20), between(1, 10), way{between(10, 20), between(1, 10)}, not},
		{api.OpJlt, between(10, 20), between(1, 11), way{between(10, 20), between(1, 11)}, way{only(10), only(11)}},
		{api.OpJlt, between(10, 20), between(12, 17), way{between(12, 20), between(12, 17)}, way{between(10, 16), between(12, 17)}},
		{api.OpJlt, between(12, 17), between(10, 20), way{between(12, 17), between(10, 17)}, way{between(12, 17), between(13, 20)}},
		{api.OpJlt, between(10, 20), between(15, 30), way{between(15, 20), between(15, 20)}, way{between(10, 20), between(15, 30)}},
		{api.OpJlt, between(15, 30), between(10, 20), way{between(15, 30), between(10, 20)}, way{between(15, 19), between(16, 20)}},
		{api.OpJlt, between(10, 20), between(20, 30), way{only(20), only(20)}, way{between(10, 20), between(20, 30)}},
		{api.OpJlt, between(10, 20), between(21, 30), not, way{between(10, 20), between(21, 30)}},
		{api.OpJlt, only(4), only(4), way{only(4), only(4)}, not},
		{api.OpJlt, only(4), only(5), not, way{only(4), only(5)}},
		{api.OpJlt, only(5), only(4), way{only(5), only(4)}, not},
		{api.OpJlt, anyWord, anyWord, way{anyWord, anyWord}, way{between(0, greatest-1), between(1, greatest)}},
		{api.OpJlt, only(greatest), anyWord, way{only(greatest), anyWord}, not},
		{api.OpJlt, anyWord, only(0), way{anyWord, only(0)}, not},
	} {
		i := of(c.op, c.s.Least)
		i.Off = 5
		k := put(crowd(), dst, c.d)
		if ofTwo(c.op) {
			k = put(k, src, c.s)
		}
		known := func(w way) api.Known {
			switch {
			case w == not:
				return nowhere
			case ofTwo(c.op):
				return put(put(k, dst, w.d), src, w.s)
			}
			return put(k, dst, w.d)
		}
		next, jumped, e := check.Behind(i, 0, k)
		if e != api.OK || next != known(c.next) || jumped != known(c.jumped) {
			t.Errorf("%+v of %v, %v: %v %v %v", i, c.d, c.s, next, jumped, e)
		}
	}
}

// P6.2: jlt of one register is gone on alone, with nothing made; ja is jumped alone.
func TestBehindOneWay(t *testing.T) {
	for _, r := range []api.Range{only(0), only(greatest), between(3, 9), anyWord} {
		k := put(crowd(), dst, r)
		if next, jumped, e := check.Behind(api.Ins{Op: api.OpJlt, Dst: dst, Src: dst, Off: 1}, 0, k); e != api.OK || next != k || jumped != nowhere {
			t.Errorf("jlt of one: %v %v %v", next, jumped, e)
		}
	}
	for _, k := range []api.Known{crowd(), {Come: true}} {
		if next, jumped, e := check.Behind(api.Ins{Op: api.OpJa, Off: 255}, 0, k); e != api.OK || next != nowhere || jumped != k {
			t.Errorf("ja: %v %v %v", next, jumped, e)
		}
	}
}

// P6.2: behind a call register 0 is all, of 1 to 5 nothing is known, 6 to 9 are as they were.
func TestBehindCall(t *testing.T) {
	some := crowd()
	some.Regs[8], some.Regs[9] = unknown, only(7)
	for _, k := range []api.Known{crowd(), some, {Come: true}} {
		want := api.Known{Come: true}
		want.Regs[0] = anyWord
		for n := 6; n <= 9; n++ {
			want.Regs[n] = k.Regs[n]
		}
		for helper := range uint32(api.Helpers) {
			if next, jumped, e := check.Behind(api.Ins{Op: api.OpCall, Imm: helper}, 0, k); e != api.OK || next != want || jumped != nowhere {
				t.Errorf("call %d: %v %v %v", helper, next, jumped, e)
			}
		}
	}
}

// P6.2: behind exit there is no way; it needs register 0 alone.
func TestBehindExit(t *testing.T) {
	for _, r := range []api.Range{only(0), anyWord, between(4, 6)} {
		if next, jumped, e := check.Behind(exit, 0, put(api.Known{Come: true}, 0, r)); e != api.OK || next != nowhere || jumped != nowhere {
			t.Errorf("exit: %v %v %v", next, jumped, e)
		}
	}
	if next, jumped, e := check.Behind(exit, 0, put(crowd(), 0, unknown)); e != api.ErrUnset || next != nowhere || jumped != nowhere {
		t.Errorf("exit: %v %v %v", next, jumped, e)
	}
}

// P6.2: what each Op needs to be known: with it alone it goes, without a part of it it is ErrUnset, whatever else is wrong.
func TestBehindNeeds(t *testing.T) {
	for op := api.OpMovi; op <= api.OpExit; op++ {
		i := api.Ins{Op: op}
		if op != api.OpJa && op != api.OpCall && op != api.OpExit {
			i = of(op, 1)
		}
		need := api.Known{Come: true}
		var parts []int
		for _, part := range needs(op) {
			parts = append(parts, map[rune]int{'d': dst, 's': src, '0': 0}[part])
		}
		for _, n := range parts {
			need.Regs[n] = only(1)
		}
		if _, _, e := check.Behind(i, 2, need); e != api.OK {
			t.Errorf("%+v with all it needs: %v", i, e)
		}
		for _, n := range parts {
			for _, other := range []api.Range{only(0), only(1), anyWord} {
				k := crowd()
				for _, m := range parts {
					k.Regs[m] = other
				}
				k.Regs[n] = unknown
				if next, jumped, e := check.Behind(i, 2, k); e != api.ErrUnset || next != nowhere || jumped != nowhere {
					t.Errorf("%+v without register %d, others %v: %v %v %v", i, n, other, next, jumped, e)
				}
			}
		}
	}
}

// P6.2: div and mod where S may be 0.
func TestBehindDivide(t *testing.T) {
	for _, op := range []api.Op{api.OpDiv, api.OpMod} {
		for s, want := range map[api.Range]api.Errno{
			only(0): api.ErrDivide, between(0, 1): api.ErrDivide, anyWord: api.ErrDivide,
			only(1): api.OK, between(1, greatest): api.OK, between(1, 2): api.OK, only(greatest): api.OK,
		} {
			for _, d := range []api.Range{only(0), between(3, 9), anyWord} {
				next, jumped, e := check.Behind(of(op, 0), 0, put(put(crowd(), dst, d), src, s))
				if e != want || e != api.OK && next != nowhere || jumped != nowhere {
					t.Errorf("%d of %v, %v: %v %v %v, want %v", op, d, s, next, jumped, e, want)
				}
			}
		}
	}
}

// P6.2: the first and the last byte of a context and of the scratch, and those beside them.
func TestBehindBounds(t *testing.T) {
	for _, c := range []struct {
		op      api.Op
		context int
		at      api.Range
		off     int
		want    api.Errno
	}{
		{api.OpLdc, 4, only(0), 0, api.OK},
		{api.OpLdc, 4, only(0), -1, api.ErrBounds},
		{api.OpLdc, 4, only(3), 0, api.OK},
		{api.OpLdc, 4, only(4), 0, api.ErrBounds},
		{api.OpLdc, 4, between(0, 3), 0, api.OK},
		{api.OpLdc, 4, between(0, 3), 1, api.ErrBounds},
		{api.OpLdc, 4, between(0, 4), 0, api.ErrBounds},
		{api.OpLdc, 4, between(1, 4), -1, api.OK},
		{api.OpLdc, 4, between(1, 4), -2, api.ErrBounds},
		{api.OpLdc, 4, between(1, 4), 0, api.ErrBounds},
		{api.OpLdc, 0, only(0), 0, api.ErrBounds},
		{api.OpLdc, 0, only(1), -1, api.ErrBounds},
		{api.OpLdc, 1, only(0), 0, api.OK},
		{api.OpLdc, 1, only(1), 0, api.ErrBounds},
		{api.OpLdc, 256, between(0, 255), 0, api.OK},
		{api.OpLdc, 256, between(0, 256), 0, api.ErrBounds},
		{api.OpLdc, 256, only(32768), -32768, api.OK},
		{api.OpLdc, 256, only(32767), -32768, api.ErrBounds},
		{api.OpLdc, 256, between(32768, 33023), -32768, api.OK},
		{api.OpLdc, 256, between(32768, 33024), -32768, api.ErrBounds},
		{api.OpLdc, 256, only(0), 255, api.OK},
		{api.OpLdc, 256, only(0), 256, api.ErrBounds},
		{api.OpLdc, 256, only(0), 32767, api.ErrBounds},
		{api.OpLdc, 256, only(greatest), 1, api.ErrBounds}, // as whole numbers, not modulo 2^32
		{api.OpLdc, 256, only(greatest), 32767, api.ErrBounds},
		{api.OpLdc, 256, anyWord, 0, api.ErrBounds},
		{api.OpLdc, 256, only(1 << 31), 0, api.ErrBounds},

		{api.OpLds, 0, between(0, 63), 0, api.OK},
		{api.OpLds, 256, only(63), 0, api.OK},
		{api.OpLds, 256, only(64), 0, api.ErrBounds},
		{api.OpLds, 256, only(0), 63, api.OK},
		{api.OpLds, 256, only(0), 64, api.ErrBounds},
		{api.OpLds, 256, only(0), -1, api.ErrBounds},
		{api.OpLds, 256, between(1, 64), -1, api.OK},
		{api.OpLds, 256, between(0, 64), -1, api.ErrBounds},
		{api.OpLds, 256, only(greatest), 1, api.ErrBounds},

		{api.OpSts, 0, between(0, 63), 0, api.OK},
		{api.OpSts, 256, only(63), 0, api.OK},
		{api.OpSts, 256, only(64), 0, api.ErrBounds},
		{api.OpSts, 256, only(0), 63, api.OK},
		{api.OpSts, 256, only(0), 64, api.ErrBounds},
		{api.OpSts, 256, only(0), -1, api.ErrBounds},
		{api.OpSts, 256, between(1, 64), -1, api.OK},
		{api.OpSts, 256, between(0, 64), -1, api.ErrBounds},
		{api.OpSts, 256, only(greatest), 1, api.ErrBounds},
	} {
		i := of(c.op, 0)
		i.Off = c.off
		// The register that is no place is one that none could be.
		at, other := src, dst
		if c.op == api.OpSts {
			at, other = dst, src
		}
		k := put(put(crowd(), at, c.at), other, only(greatest-9))
		want := nowhere
		if c.want == api.OK {
			want = k
		}
		if c.want == api.OK && c.op != api.OpSts {
			want = put(k, dst, aByte)
		}
		next, jumped, e := check.Behind(i, c.context, k)
		if e != c.want || next != want || jumped != nowhere {
			t.Errorf("%+v, context %d, %v: %v %v %v, want %v", i, c.context, c.at, next, jumped, e, c.want)
		}
	}
}
