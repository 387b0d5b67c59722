package vm_test

import (
	"testing"

	"cachet/api"
)

// D and S of these tests, where they are two registers.
const (
	dst = 3
	src = 7
)

// over is an extension that does one Op over D and another word, and ends with what D is then.
func over(op api.Op, d, other uint32) api.Program {
	if hasSrc(op) {
		return of(movi(dst, d), movi(src, other), two(op, dst, src, 0), mov(0, dst), exit)
	}
	return of(movi(dst, d), with(op, dst, other, 0), mov(0, dst), exit)
}

// P7.1: what each Op makes of two words, worked out by hand.
func TestWords(t *testing.T) {
	for _, c := range []struct {
		op             api.Op
		d, other, want uint32
	}{
		{api.OpMovi, 5, 0, 0}, {api.OpMovi, 5, 7, 7}, {api.OpMovi, 0, greatest, greatest},
		{api.OpMov, 5, 0, 0}, {api.OpMov, 5, 7, 7}, {api.OpMov, 0, greatest, greatest},

		{api.OpAddi, 2, 3, 5}, {api.OpAddi, 0, 0, 0}, {api.OpAddi, greatest - 1, 1, greatest}, {api.OpAddi, greatest, 1, 0},
		{api.OpAddi, 1, greatest, 0}, {api.OpAddi, greatest, greatest, greatest - 1}, {api.OpAddi, 1 << 31, 1 << 31, 0},
		{api.OpAdd, 2, 3, 5}, {api.OpAdd, 0, 0, 0}, {api.OpAdd, 1 << 31, 1<<31 - 1, greatest}, {api.OpAdd, 1 << 31, 1 << 31, 0},
		{api.OpAdd, greatest, 1, 0}, {api.OpAdd, greatest, greatest, greatest - 1},

		{api.OpSub, 5, 3, 2}, {api.OpSub, 3, 3, 0}, {api.OpSub, 3, 4, greatest}, {api.OpSub, 0, 1, greatest}, {api.OpSub, 0, greatest, 1},
		{api.OpSub, greatest, 0, greatest}, {api.OpSub, greatest, greatest, 0}, {api.OpSub, 0, 1 << 31, 1 << 31},

		{api.OpMuli, 6, 7, 42}, {api.OpMuli, 65535, 65537, greatest}, {api.OpMuli, 65536, 65536, 0}, {api.OpMuli, 65537, 65536, 65536},
		{api.OpMuli, greatest, greatest, 1}, {api.OpMuli, greatest, 0, 0}, {api.OpMuli, 1 << 31, 2, 0}, {api.OpMuli, greatest, 2, greatest - 1},
		{api.OpMul, 6, 7, 42}, {api.OpMul, 65537, 65535, greatest}, {api.OpMul, 65536, 65536, 0}, {api.OpMul, 3, 1431655765, greatest},
		{api.OpMul, greatest, greatest, 1}, {api.OpMul, 0, greatest, 0}, {api.OpMul, 2, 1 << 31, 0},

		{api.OpAndi, 12, 10, 8}, {api.OpAndi, greatest, 0, 0}, {api.OpAndi, greatest, 0xff00ff00, 0xff00ff00}, {api.OpAndi, 1 << 31, greatest, 1 << 31},
		{api.OpAnd, 12, 10, 8}, {api.OpAnd, 0x55555555, 0xaaaaaaaa, 0}, {api.OpAnd, greatest, greatest, greatest},
		{api.OpOr, 12, 10, 14}, {api.OpOr, 0x55555555, 0xaaaaaaaa, greatest}, {api.OpOr, 0, 0, 0}, {api.OpOr, 1 << 31, 1, 1<<31 + 1},
		{api.OpXor, 12, 10, 6}, {api.OpXor, greatest, greatest, 0}, {api.OpXor, greatest, 0x55555555, 0xaaaaaaaa}, {api.OpXor, 0, 1 << 31, 1 << 31},

		{api.OpShli, 5, 0, 5}, {api.OpShli, 5, 1, 10}, {api.OpShli, 1, 31, 1 << 31}, {api.OpShli, 2, 31, 0}, {api.OpShli, 3, 31, 1 << 31},
		{api.OpShli, greatest, 31, 1 << 31}, {api.OpShli, greatest, 0, greatest}, {api.OpShli, greatest, 1, greatest - 1}, {api.OpShli, 0x12345678, 16, 0x56780000},
		{api.OpShri, 5, 0, 5}, {api.OpShri, 5, 1, 2}, {api.OpShri, greatest, 31, 1}, {api.OpShri, 1<<31 - 1, 31, 0}, {api.OpShri, 1 << 31, 31, 1},
		{api.OpShri, greatest, 0, greatest}, {api.OpShri, greatest, 1, 1<<31 - 1}, {api.OpShri, 0x12345678, 16, 0x1234},

		{api.OpDiv, 7, 2, 3}, {api.OpDiv, 7, 1, 7}, {api.OpDiv, 7, 7, 1}, {api.OpDiv, 7, 8, 0}, {api.OpDiv, 0, 1, 0},
		{api.OpDiv, greatest, 1, greatest}, {api.OpDiv, greatest, greatest, 1}, {api.OpDiv, greatest, 2, 1<<31 - 1}, {api.OpDiv, greatest - 1, greatest, 0}, {api.OpDiv, 1 << 31, greatest, 0},
		{api.OpMod, 7, 2, 1}, {api.OpMod, 7, 1, 0}, {api.OpMod, 7, 7, 0}, {api.OpMod, 7, 8, 7}, {api.OpMod, 0, 1, 0},
		{api.OpMod, greatest, 1, 0}, {api.OpMod, greatest, greatest, 0}, {api.OpMod, greatest, 1 << 31, 1<<31 - 1}, {api.OpMod, greatest - 1, greatest, greatest - 1}, {api.OpMod, 1 << 31, greatest, 1 << 31},
	} {
		p := over(c.op, c.d, c.other)
		if ran, _ := hold(t, p, nil); ran.Fault != api.FaultNone || ran.Value != c.want || ran.Steps != len(p.Ins) {
			t.Errorf("%d of %d and %d: %+v, want %d", c.op, c.d, c.other, ran, c.want)
		}
	}
}

// P7.1: each Op that makes a word, of all pairs of words at edges, against the model; D and S may be one register.
func TestWordsOfAll(t *testing.T) {
	for op, l := range lines {
		if l.makes == nil {
			continue
		}
		for _, d := range edges {
			for _, other := range edges {
				if op == api.OpShli || op == api.OpShri {
					other %= 32
				}
				hold(t, over(op, d, other), nil)
			}
			if hasSrc(op) {
				hold(t, of(movi(4, d), two(op, 4, 4, 0), mov(0, 4), exit), nil)
			}
		}
	}
	for n := range uint32(32) {
		for _, d := range edges {
			hold(t, over(api.OpShli, d, n), nil)
			hold(t, over(api.OpShri, d, n), nil)
		}
	}
}

// full sets each register to a word of its own.
func full() []api.Ins {
	var l []api.Ins
	for n := range api.Registers {
		l = append(l, movi(n, uint32(11*n+3)))
	}
	return l
}

// P7.1: each Op over all pairs of registers; those that it does not name stay as they were.
func TestRegisters(t *testing.T) {
	context := bytesOf(128)
	for op := range lines {
		for d := range api.Registers {
			for s := range api.Registers {
				i := two(op, d, s, 0)
				switch {
				case op == api.OpJa || op == api.OpCall || op == api.OpExit:
					i.Dst, i.Src = 0, 0
				case !hasSrc(op):
					i.Src, i.Imm = 0, uint32(s+9)
				}
				p := api.Program{Context: len(context), Ins: append(full(), i, mov(0, d), exit)}
				_, moments := hold(t, p, context, 77)
				if len(moments) < 12 {
					continue // it ended, or faulted, at the Op
				}
				was, is := moments[10], moments[11]
				for n := range api.Registers {
					changed := n == d
					if op == api.OpCall {
						changed = n <= 5
					}
					if !changed && (is.Set[n] != was.Set[n] || is.Regs[n] != was.Regs[n]) {
						t.Errorf("%+v changed register %d: %+v", i, n, is)
					}
				}
			}
		}
	}
}
