package vm_test

import (
	"math/rand/v2"
	"testing"

	"cachet/api"
	"cachet/check"
)

// dice are the same in each run of the tests.
func dice(n uint64) *rand.Rand { return rand.New(rand.NewPCG(7, n)) }

// anyWord is a word: one at an edge, a small one, or any.
func anyWord(r *rand.Rand) uint32 {
	switch r.IntN(3) {
	case 0:
		return edges[r.IntN(len(edges))]
	case 1:
		return r.Uint32N(80)
	}
	return r.Uint32() >> r.IntN(32)
}

// anyIns is an instruction that may be, which jumps over so many at most.
func anyIns(r *rand.Rand, most int) api.Ins {
	i := api.Ins{Op: api.Op(1 + r.IntN(24))}
	needs := lines[i.Op].needs
	switch {
	case isJump(i.Op):
		i.Off = r.IntN(most + 1)
	case i.Op == api.OpLdc || i.Op == api.OpLds || i.Op == api.OpSts:
		i.Off = r.IntN(96) - 16
	}
	switch {
	case i.Op == api.OpCall:
		i.Imm = r.Uint32N(api.Helpers)
	case i.Op == api.OpJa || i.Op == api.OpExit:
	case hasSrc(i.Op):
		i.Dst, i.Src = r.IntN(api.Registers), r.IntN(api.Registers)
	case i.Op == api.OpShli || i.Op == api.OpShri:
		i.Dst, i.Imm = r.IntN(api.Registers), r.Uint32N(32)
	case i.Op == api.OpMovi || needs == "d":
		i.Dst, i.Imm = r.IntN(api.Registers), anyWord(r)
	}
	return i
}

// anyProgram is an extension whose instructions may be; most registers are set first, as else it would fault at once.
func anyProgram(r *rand.Rand) api.Program {
	p := api.Program{Context: r.IntN(api.MaxContext + 1)}
	for n := range api.Registers {
		if r.IntN(20) > 0 {
			p.Ins = append(p.Ins, movi(n, anyWord(r)))
		}
	}
	size := r.IntN(24)
	for n := range size {
		most := min(size-n, 3)
		if r.IntN(20) == 0 {
			most = 255
		}
		i := anyIns(r, most)
		if i.Op == api.OpExit || r.IntN(6) == 0 {
			i = movi(r.IntN(api.Registers), r.Uint32N(70))
		}
		p.Ins = append(p.Ins, i)
	}
	if r.IntN(8) > 0 {
		p.Ins = append(p.Ins, exit)
	}
	return p
}

// anyContext is a context of a size.
func anyContext(r *rand.Rand, size int) []byte {
	b := make([]byte, size)
	kind := r.IntN(4)
	for n := range b {
		switch kind {
		case 0:
			b[n] = 255
		case 1:
			b[n] = byte(n)
		case 2:
			b[n] = byte(r.Uint32())
		}
	}
	return b
}

// anyAnswers are helpers' answers to an extension: of all kinds, and words at which its jumps turn.
func anyAnswers(r *rand.Rand, p api.Program) []uint32 {
	l := make([]uint32, r.IntN(8))
	for n := range l {
		l[n] = anyWord(r)
		if len(p.Ins) > 0 && r.IntN(2) == 0 {
			l[n] = p.Ins[r.IntN(len(p.Ins))].Imm + r.Uint32N(3) - 1
		}
	}
	return l
}

// P7.1: extensions of all kinds, against the model; all faults are among them, and all Ops are done.
func TestRunOfMany(t *testing.T) {
	r := dice(1)
	faults, done := map[api.Fault]int{}, map[api.Op]int{}
	for range 40000 {
		p := anyProgram(r)
		ran, moments := hold(t, p, anyContext(r, p.Context), anyAnswers(r, p)...)
		faults[ran.Fault]++
		for _, m := range moments[:ran.Steps] {
			done[p.Ins[m.At].Op]++
		}
	}
	for _, f := range []api.Fault{api.FaultNone, api.FaultJump, api.FaultUnset, api.FaultDivide, api.FaultBounds} {
		if faults[f] < 500 {
			t.Errorf("too few of fault %d: %v", f, faults)
		}
	}
	for op := range lines {
		if done[op] < 500 {
			t.Errorf("too few of Op %d: %v", op, done)
		}
	}
}

// goodProgram is an extension that layer 6 lets run: instruction by instruction, one that it takes there.
func goodProgram(r *rand.Rand) api.Program {
	size := 3 + r.IntN(40)
	p := api.Program{Context: r.IntN(api.MaxContext + 1), Ins: make([]api.Ins, size)}
	for n := range p.Ins {
		p.Ins[n] = exit
	}
	p.Ins[0] = call(r.Uint32N(api.Helpers))
	for n := 1; n < size-1; n++ {
		p.Ins[n] = movi(r.IntN(api.Registers), r.Uint32N(70))
		plain := p.Ins[n]
		for range 4 {
			p.Ins[n] = anyIns(r, min(size-2-n, 6))
			// An exit is put in seldom, or there were little behind it.
			if check.Check(p) == api.OK && (p.Ins[n].Op != api.OpExit || r.IntN(10) == 0) {
				break
			}
			p.Ins[n] = plain
		}
	}
	return p
}
