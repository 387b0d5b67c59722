package vm

import "cachet/api"

// does is what an Op does at a run's step. Where it faults, nothing has changed.
type does func(r *run)

// operand is where an Op has its other word from.
type operand func(r *run) uint32

// ops has what each Op does, at its number; OpNone is none.
func ops() [api.OpExit + 1]does {
	return [...]does{
		api.OpMovi: set((*run).imm),
		api.OpMov:  set((*run).src),
		api.OpAddi: fold(sum, (*run).imm),
		api.OpAdd:  fold(sum, (*run).src),
		api.OpSub:  fold(difference, (*run).src),
		api.OpMuli: fold(product, (*run).imm),
		api.OpMul:  fold(product, (*run).src),
		api.OpAndi: fold(common, (*run).imm),
		api.OpAnd:  fold(common, (*run).src),
		api.OpOr:   fold(either, (*run).src),
		api.OpXor:  fold(apart, (*run).src),
		api.OpShli: fold(up, (*run).imm),
		api.OpShri: fold(down, (*run).imm),
		api.OpDiv:  fold(quotient, (*run).src),
		api.OpMod:  fold(rest, (*run).src),
		api.OpLdc:  (*run).loadContext,
		api.OpLds:  (*run).loadScratch,
		api.OpSts:  (*run).store,
		api.OpJa:   (*run).jump,
		api.OpJeqi: jumpIf(equal, (*run).imm),
		api.OpJlti: jumpIf(less, (*run).imm),
		api.OpJlt:  jumpIf(less, (*run).src),
		api.OpCall: (*run).call,
		api.OpExit: (*run).exit,
	}
}

// set makes D the other word.
func set(other operand) does {
	return func(r *run) { r.put(r.here.Dst, other(r)) }
}

// fold makes D of D and of the other word.
func fold(of func(d, s uint32) uint32, other operand) does {
	return func(r *run) {
		// What is needed is asked first, all of it: that a part is not set is told ahead of what is wrong with the other.
		d, s := r.dst(), other(r)
		r.put(r.here.Dst, of(d, s))
	}
}

// jumpIf jumps where something holds of D and of the other word.
func jumpIf(holds func(d, s uint32) bool, other operand) does {
	return func(r *run) {
		if holds(r.dst(), other(r)) {
			r.jump()
		}
	}
}

func sum(d, s uint32) uint32 { return d + s }

func difference(d, s uint32) uint32 { return d - s }

func product(d, s uint32) uint32 { return d * s }

func common(d, s uint32) uint32 { return d & s }

func either(d, s uint32) uint32 { return d | s }

func apart(d, s uint32) uint32 { return d ^ s }

func up(d, s uint32) uint32 { return d << s }

func down(d, s uint32) uint32 { return d >> s }

// quotient gives up where it is by 0.
func quotient(d, s uint32) uint32 {
	notZero(s)
	return d / s
}

// rest gives up where it is by 0.
func rest(d, s uint32) uint32 {
	notZero(s)
	return d % s
}

func notZero(s uint32) {
	if s == 0 {
		panic(api.FaultDivide)
	}
}

func equal(d, s uint32) bool { return d == s }

func less(d, s uint32) bool { return d < s }

func (r *run) loadContext() {
	at := r.place(r.src(), len(r.context))
	r.put(r.here.Dst, uint32(r.context[at]))
}

func (r *run) loadScratch() {
	at := r.place(r.src(), api.Scratch)
	r.put(r.here.Dst, uint32(r.ran.Scratch[at]))
}

func (r *run) store() {
	// S is asked ahead of the place: that it is not set is told ahead of a byte that there is not.
	d, s := r.dst(), r.src()
	r.ran.Scratch[r.place(d, api.Scratch)] = byte(s)
}

// jump leads over as many instructions as Off.
func (r *run) jump() { r.now.At += r.here.Off }

func (r *run) call() {
	r.ran.Calls = append(r.ran.Calls, api.Call{
		Helper: int(r.here.Imm),
		Args:   [5]uint32(r.now.Regs[firstArg : lastArg+1]),
	})
	r.put(answer, r.take())
	for n := firstArg; n <= lastArg; n++ {
		r.drop(n)
	}
}

func (r *run) exit() { r.ran.Value = r.get(answer) }
