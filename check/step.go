package check

import "cachet/api"

// Registers that calls and exits use.
const (
	answer   = 0
	firstArg = 1
	lastArg  = 5
)

// step is an instruction that is come to, and what is known ahead of it.
type step struct {
	ins     api.Ins
	context int
	known   api.Known
}

// need is what is known of a register; where that is nothing, it gives up.
func (s step) need(register int) api.Range {
	r := s.known.Regs[register]
	if r == nothing() {
		panic(unset{})
	}
	return r
}

// dst is what is known of D.
func (s step) dst() api.Range { return s.need(s.ins.Dst) }

// src is what is known of S where it is a register.
func (s step) src() api.Range { return s.need(s.ins.Src) }

// imm is what is known of S where it is Imm.
func (s step) imm() api.Range { return just(s.ins.Imm) }

// power is what is known of 2 to the Imm.
func (s step) power() api.Range { return just(1 << s.ins.Imm) }

// inside gives up unless there is a byte, of so many, wherever a register and Off together are.
func (s step) inside(r api.Range, size int) {
	off := int64(s.ins.Off)
	if int64(r.Least)+off < 0 || int64(r.Great)+off >= int64(size) {
		panic(beyond{})
	}
}

// with is what is known where D is in a range.
func (s step) with(d api.Range) api.Known {
	k := s.known
	k.Regs[s.ins.Dst] = d
	return k
}

// withBoth is what is known where D and S, which are two registers, are in ranges.
func (s step) withBoth(d, o api.Range) api.Known {
	k := s.with(d)
	k.Regs[s.ins.Src] = o
	return k
}
