package check_test

import (
	"math/rand/v2"

	"cachet/api"
)

// dice are the same in each run of the tests.
func dice(n uint64) *rand.Rand { return rand.New(rand.NewPCG(n, 6)) }

// someWord is a word: often a small one, or one at an edge.
func someWord(r *rand.Rand) uint32 {
	switch r.IntN(4) {
	case 0:
		return edges[r.IntN(len(edges))]
	case 1:
		return r.Uint32() >> r.IntN(32)
	}
	return r.Uint32N(70)
}

// someRange is a range, or none.
func someRange(r *rand.Rand) api.Range {
	if r.IntN(8) == 0 {
		return unknown
	}
	a, b := someWord(r), someWord(r)
	return between(min(a, b), max(a, b))
}

// someKnown is what may be known.
func someKnown(r *rand.Rand) api.Known {
	k := api.Known{Come: true}
	for n := range k.Regs {
		k.Regs[n] = someRange(r)
	}
	return k
}

// more is what is known by more ways than these: within it these are.
func more(r *rand.Rand, k api.Known) api.Known {
	for n, o := range k.Regs {
		switch r.IntN(6) {
		case 0:
			k.Regs[n] = unknown
		case 1, 2:
			if w := someRange(r); o.Set && w.Set {
				k.Regs[n] = between(min(o.Least, w.Least), max(o.Great, w.Great))
			}
		case 3:
			if o.Set && o.Great < greatest {
				k.Regs[n].Great++
			}
		}
	}
	return k
}

// someIns is an instruction that may be, which leads over so many at most where it jumps.
func someIns(r *rand.Rand, over int) api.Ins {
	op := api.Op(1 + r.IntN(24))
	i := api.Ins{Op: op, Dst: r.IntN(10), Imm: someWord(r)}
	if ofTwo(op) {
		i.Src, i.Imm = r.IntN(10), 0
	}
	switch op {
	case api.OpLdc, api.OpLds, api.OpSts:
		i.Off = r.IntN(80) - 10
	case api.OpJa, api.OpJeqi, api.OpJlti, api.OpJlt:
		i.Off = r.IntN(over + 1)
	case api.OpShli, api.OpShri:
		i.Imm %= 32
	case api.OpCall:
		i.Imm %= 8
	}
	switch op {
	case api.OpJa, api.OpCall, api.OpExit:
		i.Dst = 0
	}
	if op == api.OpJa || op == api.OpExit {
		i.Imm = 0
	}
	return i
}

// someProgram is an extension: some first instructions set registers, the last one is exit, jumps lead seldom behind it.
func someProgram(r *rand.Rand) api.Program {
	p := api.Program{Context: r.IntN(257)}
	size := 3 + r.IntN(20)
	first := r.IntN(min(size-1, 8))
	for n := range size - 1 {
		switch {
		case n == 0:
			p.Ins = append(p.Ins, call)
		case n < first:
			p.Ins = append(p.Ins, movi(r.IntN(10), someWord(r)))
		case r.IntN(6) == 0:
			p.Ins = append(p.Ins, api.Ins{Op: api.OpAndi, Dst: r.IntN(10), Imm: r.Uint32N(64)})
		default:
			over := size - 2 - n
			if r.IntN(30) == 0 {
				over = 255
			}
			p.Ins = append(p.Ins, someIns(r, over))
		}
	}
	return api.Program{Context: p.Context, Ins: append(p.Ins, exit)}
}
