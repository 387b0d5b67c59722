package vm

import "cachet/api"

// Registers that calls and exits use.
const (
	answer   = 0
	firstArg = 1
	lastArg  = 5
)

// run is a run as it stands.
type run struct {
	ins     []api.Ins
	context []byte
	answers []uint32   // those that no call took yet
	here    api.Ins    // the instruction at which it is
	now     api.Moment // where it is, and its registers
	ran     api.Ran    // what is told of it, but for At and Fault
}

// begin is a run that has done nothing yet.
func begin(p api.Program, context []byte, answers ...uint32) *run {
	return &run{ins: p.Ins, context: context, answers: answers}
}

// follow does instruction by instruction, up to the exit, and tells how it stands ahead of each of them; where it faults, it gives up.
func (r *run) follow(tell func(m api.Moment)) {
	table := ops()
	// It ends: no jump leads back, so that each step leads further on, and there is no instruction behind the last one.
	for {
		tell(r.now)
		r.here = r.next()
		table[r.here.Op](r)
		r.ran.Steps++
		if r.here.Op == api.OpExit {
			return
		}
		r.now.At++
	}
}

// ended is what is told of a run that has come to its end, or to a fault.
func (r *run) ended(fault api.Fault) api.Ran {
	ran := r.ran
	ran.At, ran.Fault = r.now.At, fault
	return ran
}

// next is the instruction at the place where the run is; where there is none, it gives up.
func (r *run) next() api.Ins {
	if r.now.At >= len(r.ins) {
		panic(api.FaultJump)
	}
	return r.ins[r.now.At]
}

// get is a register's word; where it is not set, it gives up.
func (r *run) get(register int) uint32 {
	if !r.now.Set[register] {
		panic(api.FaultUnset)
	}
	return r.now.Regs[register]
}

// put sets a register.
func (r *run) put(register int, n uint32) {
	r.now.Set[register], r.now.Regs[register] = true, n
}

// drop unsets a register; its word is 0 then, as that of each one that is not set.
func (r *run) drop(register int) {
	r.now.Set[register], r.now.Regs[register] = false, 0
}

// dst is the word of D.
func (r *run) dst() uint32 { return r.get(r.here.Dst) }

// src is the word of S.
func (r *run) src() uint32 { return r.get(r.here.Src) }

func (r *run) imm() uint32 { return r.here.Imm }

// place is where a word and Off together are among so many bytes; where there is no such byte, it gives up.
func (r *run) place(n uint32, size int) int {
	// As whole numbers: a sum of words would come round to a byte that there is.
	at := int64(n) + int64(r.here.Off)
	if at < 0 || at >= int64(size) {
		panic(api.FaultBounds)
	}
	return int(at)
}

// take takes the helpers' next answer; behind the last one it is 0.
func (r *run) take() uint32 {
	if len(r.answers) == 0 {
		return 0
	}
	n := r.answers[0]
	r.answers = r.answers[1:]
	return n
}
