package check

import "cachet/api"

// makes is what an Op makes of a step: what is known by the way on, and by the jump.
type makes func(s step) (next, jumped api.Known)

// ops has what each Op makes.
func ops() map[api.Op]makes {
	return map[api.Op]makes{
		api.OpMovi: set(step.imm),
		api.OpMov:  set(step.src),
		api.OpAddi: fold(sum, step.imm),
		api.OpAdd:  fold(sum, step.src),
		api.OpSub:  fold(difference, step.src),
		api.OpMuli: fold(product, step.imm),
		api.OpMul:  fold(product, step.src),
		api.OpAndi: fold(common, step.imm),
		api.OpAnd:  fold(common, step.src),
		api.OpOr:   fold(either, step.src),
		api.OpXor:  fold(apart, step.src),
		api.OpShli: fold(product, step.power),
		api.OpShri: fold(quotient, step.power),
		api.OpDiv:  fold(quotient, step.src),
		api.OpMod:  fold(rest, step.src),
		api.OpLdc:  loadContext,
		api.OpLds:  loadScratch,
		api.OpSts:  store,
		api.OpJa:   jump,
		api.OpJeqi: jumpEqual,
		api.OpJlti: jumpLess,
		api.OpJlt:  jumpLessOfTwo,
		api.OpCall: call,
		api.OpExit: exit,
	}
}

// set is what makes D what something else is.
func set(other func(s step) api.Range) makes {
	return func(s step) (next, jumped api.Known) {
		return s.with(other(s)), jumped
	}
}

// fold is what makes D of D and of something else.
func fold(of func(d, s api.Range) api.Range, other func(s step) api.Range) makes {
	return func(s step) (next, jumped api.Known) {
		// What is needed is asked first, all of it: that a part is not known is told ahead of what is wrong with the other.
		d, o := s.dst(), other(s)
		return s.with(of(d, o)), jumped
	}
}

func loadContext(s step) (next, jumped api.Known) {
	s.inside(s.src(), s.context)
	return s.with(octet()), jumped
}

func loadScratch(s step) (next, jumped api.Known) {
	s.inside(s.src(), api.Scratch)
	return s.with(octet()), jumped
}

func store(s step) (next, jumped api.Known) {
	d, _ := s.dst(), s.src()
	s.inside(d, api.Scratch)
	return s.known, jumped
}

func jump(s step) (next, jumped api.Known) { return next, s.known }

func jumpEqual(s step) (next, jumped api.Known) {
	d, o := s.dst(), s.imm()
	if has(d, s.ins.Imm) {
		jumped = s.with(o)
	}
	if d != o {
		next = s.with(without(d, s.ins.Imm))
	}
	return next, jumped
}

func jumpLess(s step) (next, jumped api.Known) {
	d, imm := s.dst(), s.ins.Imm
	if d.Least < imm {
		jumped = s.with(atMost(d, imm-1))
	}
	if d.Great >= imm {
		next = s.with(atLeast(d, imm))
	}
	return next, jumped
}

func jumpLessOfTwo(s step) (next, jumped api.Known) {
	d, o := s.dst(), s.src()
	// No register is below itself.
	if s.ins.Dst == s.ins.Src {
		return s.known, jumped
	}
	if d.Least < o.Great {
		jumped = s.withBoth(atMost(d, o.Great-1), atLeast(o, d.Least+1))
	}
	if d.Great >= o.Least {
		next = s.withBoth(atLeast(d, o.Least), atMost(o, d.Great))
	}
	return next, jumped
}

func call(s step) (next, jumped api.Known) {
	next = s.known
	next.Regs[answer] = all()
	for n := firstArg; n <= lastArg; n++ {
		next.Regs[n] = nothing()
	}
	return next, jumped
}

func exit(s step) (next, jumped api.Known) {
	s.need(answer)
	return next, jumped
}
