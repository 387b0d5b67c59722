package vm_test

import (
	"testing"

	"cachet/api"
	"cachet/vm"
)

// endingAt is an extension that does the same up to a place, and ends there with a register's word.
func endingAt(p api.Program, at, register int) api.Program {
	l := append([]api.Ins{}, p.Ins[:min(at, len(p.Ins))]...)
	// Beyond the last instruction places are filled up, which are not come to.
	for len(l) < at {
		l = append(l, exit)
	}
	return api.Program{Context: p.Context, Ins: append(l, mov(0, register), exit)}
}

// stepwise holds Trace against Run alone, step by step: a run that ends ahead of an instruction tells how it stood there.
func stepwise(t *testing.T, p api.Program, context []byte, answers ...uint32) {
	t.Helper()
	ran, e := vm.Run(p, context, answers...)
	moments, et := vm.Trace(p, context, answers...)
	count := ran.Steps
	if ran.Fault != api.FaultNone {
		count++
	}
	if e != api.OK || et != api.OK || len(moments) != count || moments[0] != (api.Moment{}) || moments[count-1].At != ran.At {
		t.Fatalf("%+v: %+v %v, %+v %v", p, ran, e, moments, et)
	}
	for n, m := range moments {
		if m.At+2 > api.MaxCode {
			continue
		}
		for register := range api.Registers {
			part, e := vm.Run(endingAt(p, m.At, register), context, answers...)
			want := api.Ran{Steps: n, At: m.At, Fault: api.FaultUnset}
			if m.Set[register] {
				want = api.Ran{Steps: n + 2, At: m.At + 1, Value: m.Regs[register]}
			}
			if e != api.OK || part.Steps != want.Steps || part.At != want.At || part.Fault != want.Fault || part.Value != want.Value {
				t.Fatalf("%+v: register %d of %+v: %+v %v, want %+v", p, register, m, part, e, want)
			}
			if !m.Set[register] && m.Regs[register] != 0 {
				t.Fatalf("%+v: register %d is not set, and not 0: %+v", p, register, m)
			}
		}
	}
}

// P7.1: Trace against Run, step by step.
func TestTraceAgainstRun(t *testing.T) {
	stepwise(t, of(movi(0, 7), exit), nil)
	stepwise(t, of(exit), nil)
	stepwise(t, of(), nil)
	stepwise(t, of(ja(100)), nil)
	stepwise(t, of(append(full(), call(3), ja(1), exit, movi(2, 8), exit)...), nil, 9)
	r := dice(4)
	for range 3000 {
		p := anyProgram(r)
		stepwise(t, p, anyContext(r, p.Context), anyAnswers(r, p)...)
		if p = goodProgram(r); r.IntN(3) == 0 {
			stepwise(t, p, anyContext(r, p.Context), anyAnswers(r, p)...)
		}
	}
}
