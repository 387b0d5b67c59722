package check_test

import (
	"math"
	"math/big"

	"cachet/api"
)

const greatest = math.MaxUint32

var (
	unknown = api.Range{}
	anyWord = between(0, greatest)
	aByte   = between(0, 255)
	exit    = api.Ins{Op: api.OpExit}
	nowhere = api.Known{}
)

func between(least, great uint32) api.Range {
	return api.Range{Set: true, Least: least, Great: great}
}

func only(n uint32) api.Range { return between(n, n) }

// crowd is what is known where each register has a range of its own, and register 9 none.
func crowd() api.Known {
	k := api.Known{Come: true}
	for n := range uint32(9) {
		k.Regs[n] = between(100*n+1, 100*n+7)
	}
	return k
}

// put is what is known where a register is in a range, and all else as it was.
func put(k api.Known, register int, r api.Range) api.Known {
	k.Regs[register] = r
	return k
}

// needs tells what each Op needs to be known, by the document: d for D, s for S as a register, 0 for register 0.
func needs(op api.Op) string {
	switch op {
	case api.OpMovi, api.OpJa, api.OpCall:
		return ""
	case api.OpMov, api.OpLdc, api.OpLds:
		return "s"
	case api.OpAddi, api.OpMuli, api.OpAndi, api.OpShli, api.OpShri, api.OpJeqi, api.OpJlti:
		return "d"
	case api.OpExit:
		return "0"
	}
	return "ds"
}

// ofTwo tells whether an Op has S as a register.
func ofTwo(op api.Op) bool {
	switch op {
	case api.OpMov, api.OpAdd, api.OpSub, api.OpMul, api.OpAnd, api.OpOr, api.OpXor, api.OpDiv, api.OpMod, api.OpLdc, api.OpLds, api.OpSts, api.OpJlt:
		return true
	}
	return false
}

// isJump tells whether an Op jumps.
func isJump(op api.Op) bool { return api.OpJa <= op && op <= api.OpJlt }

// power is 2 to some power, as a whole number.
func power(n uint32) *big.Int { return new(big.Int).Lsh(big.NewInt(1), uint(n)) }

func whole(n uint32) *big.Int { return new(big.Int).SetUint64(uint64(n)) }

// allIfAbove is from least to great, or all where great is 2^32 or more.
func allIfAbove(least, great *big.Int) api.Range {
	if great.Cmp(power(32)) >= 0 {
		return anyWord
	}
	return between(uint32(least.Uint64()), uint32(great.Uint64()))
}

// onesOf are the ones of a number, counted up to.
func onesOf(n uint32) uint32 {
	p := uint64(1)
	for p-1 < uint64(n) {
		p *= 2
	}
	return uint32(p - 1)
}

// madeOf is what an Op makes of D and S, which are known, as the document has it, with whole numbers of any size.
func madeOf(i api.Ins, d, s api.Range) api.Range {
	plus := func(a, b uint32) *big.Int { return new(big.Int).Add(whole(a), whole(b)) }
	times := func(a uint32, b *big.Int) *big.Int { return new(big.Int).Mul(whole(a), b) }
	parted := func(a uint32, b *big.Int) uint32 { return uint32(new(big.Int).Quo(whole(a), b).Uint64()) }
	switch i.Op {
	case api.OpMovi, api.OpMov:
		return s
	case api.OpAddi, api.OpAdd:
		return allIfAbove(plus(d.Least, s.Least), plus(d.Great, s.Great))
	case api.OpSub:
		if int64(d.Least)-int64(s.Great) < 0 {
			return anyWord
		}
		return between(uint32(int64(d.Least)-int64(s.Great)), uint32(int64(d.Great)-int64(s.Least)))
	case api.OpMuli, api.OpMul:
		return allIfAbove(times(d.Least, whole(s.Least)), times(d.Great, whole(s.Great)))
	case api.OpShli:
		return allIfAbove(times(d.Least, power(i.Imm)), times(d.Great, power(i.Imm)))
	case api.OpShri:
		return between(parted(d.Least, power(i.Imm)), parted(d.Great, power(i.Imm)))
	case api.OpAndi, api.OpAnd:
		return between(0, min(d.Great, s.Great))
	case api.OpOr:
		return between(max(d.Least, s.Least), onesOf(max(d.Great, s.Great)))
	case api.OpXor:
		return between(0, onesOf(max(d.Great, s.Great)))
	case api.OpDiv:
		return between(parted(d.Least, whole(s.Great)), parted(d.Great, whole(s.Least)))
	case api.OpMod:
		return between(0, min(d.Great, s.Great-1))
	case api.OpLdc, api.OpLds:
		return aByte
	}
	return d
}

// errorOf is the error of an instruction that is come to, but for ErrJump.
func errorOf(i api.Ins, context int, k api.Known) api.Errno {
	for _, part := range needs(i.Op) {
		register := map[rune]int{'d': i.Dst, 's': i.Src, '0': 0}[part]
		if !k.Regs[register].Set {
			return api.ErrUnset
		}
	}
	at, size := k.Regs[i.Src], context
	switch i.Op {
	case api.OpDiv, api.OpMod:
		if at.Least == 0 {
			return api.ErrDivide
		}
		return api.OK
	case api.OpLds:
		size = api.Scratch
	case api.OpSts:
		at, size = k.Regs[i.Dst], api.Scratch
	case api.OpLdc:
	default:
		return api.OK
	}
	if int64(at.Least)+int64(i.Off) < 0 || int64(at.Great)+int64(i.Off) > int64(size)-1 {
		return api.ErrBounds
	}
	return api.OK
}

// jumpOf is both ways of jeqi, jlti, jlt, of what is known.
func jumpOf(i api.Ins, k api.Known) (next, jumped api.Known) {
	d, s := k.Regs[i.Dst], only(i.Imm)
	if ofTwo(i.Op) {
		s = k.Regs[i.Src]
	}
	on, away := k, k
	switch {
	case i.Op == api.OpJeqi:
		away.Come = d.Least <= i.Imm && i.Imm <= d.Great
		away.Regs[i.Dst] = s
		on.Come = d != s
		if i.Imm == d.Least {
			on.Regs[i.Dst].Least++
		} else if i.Imm == d.Great {
			on.Regs[i.Dst].Great--
		}
	case ofTwo(i.Op) && i.Dst == i.Src:
		away.Come = false
	default:
		away.Come = d.Least < s.Great
		away.Regs[i.Dst].Great = min(d.Great, s.Great-1)
		on.Come = d.Great >= s.Least
		on.Regs[i.Dst].Least = max(d.Least, s.Least)
		if ofTwo(i.Op) {
			away.Regs[i.Src].Least = max(s.Least, d.Least+1)
			on.Regs[i.Src].Great = min(s.Great, d.Great)
		}
	}
	if !on.Come {
		on = nowhere
	}
	if !away.Come {
		away = nowhere
	}
	return on, away
}

// behindOf is what is known behind an instruction that may be, by the document.
func behindOf(i api.Ins, context int, k api.Known) (next, jumped api.Known, e api.Errno) {
	if !k.Come {
		return nowhere, nowhere, api.OK
	}
	if e = errorOf(i, context, k); e != api.OK {
		return nowhere, nowhere, e
	}
	switch i.Op {
	case api.OpExit:
		return nowhere, nowhere, api.OK
	case api.OpJa:
		return nowhere, k, api.OK
	case api.OpJeqi, api.OpJlti, api.OpJlt:
		next, jumped = jumpOf(i, k)
		return next, jumped, api.OK
	case api.OpCall:
		k.Regs[0] = anyWord
		for n := 1; n <= 5; n++ {
			k.Regs[n] = unknown
		}
		return k, nowhere, api.OK
	}
	s := only(i.Imm)
	if ofTwo(i.Op) {
		s = k.Regs[i.Src]
	}
	k.Regs[i.Dst] = madeOf(i, k.Regs[i.Dst], s)
	return k, nowhere, api.OK
}

// joinOf is what is known by some ways, together.
func joinOf(ways ...api.Known) api.Known {
	var k api.Known
	for _, way := range ways {
		switch {
		case !way.Come:
			continue
		case !k.Come:
			k = way
			continue
		}
		for n, r := range way.Regs {
			if !k.Regs[n].Set || !r.Set {
				k.Regs[n] = unknown
				continue
			}
			k.Regs[n] = between(min(k.Regs[n].Least, r.Least), max(k.Regs[n].Great, r.Great))
		}
	}
	return k
}

// knownOf is what is known ahead of each instruction of an extension all of whose parts may be: each place asks all ahead of it for their ways to it.
func knownOf(p api.Program) ([]api.Known, api.Errno) {
	if len(p.Ins) == 0 {
		return nil, api.ErrEmpty
	}
	known := []api.Known{{Come: true}}
	for at, i := range p.Ins {
		if known[at].Come {
			if _, _, e := behindOf(i, p.Context, known[at]); e != api.OK {
				return nil, e
			}
			if leadsOut(p, at) {
				return nil, api.ErrJump
			}
		}
		if at+1 == len(p.Ins) {
			break
		}
		var ways []api.Known
		for ahead := range at + 1 {
			next, jumped, _ := behindOf(p.Ins[ahead], p.Context, known[ahead])
			if ahead == at {
				ways = append(ways, next)
			}
			if isJump(p.Ins[ahead].Op) && ahead+1+p.Ins[ahead].Off == at+1 {
				ways = append(ways, jumped)
			}
		}
		known = append(known, joinOf(ways...))
	}
	return known, api.OK
}

// leadsOut tells whether an instruction leads behind the last one.
func leadsOut(p api.Program, at int) bool {
	i := p.Ins[at]
	if isJump(i.Op) && at+1+i.Off > len(p.Ins)-1 {
		return true
	}
	return i.Op != api.OpExit && i.Op != api.OpJa && at == len(p.Ins)-1
}

// within tells whether what is known in one case is within what is known in another: where less is known, more may be.
func within(a, b api.Known) bool {
	if !a.Come {
		return true
	}
	if !b.Come {
		return false
	}
	for n, r := range a.Regs {
		o := b.Regs[n]
		if o.Set && (!r.Set || r.Least < o.Least || r.Great > o.Great) {
			return false
		}
	}
	return true
}
