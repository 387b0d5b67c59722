package vm_test

import (
	"slices"
	"testing"

	"cachet/api"
	"cachet/vm"
)

// busy is an extension that stores, loads and calls, over a context of 8 bytes.
func busy() []api.Ins {
	return []api.Ins{
		movi(1, 3), two(api.OpLdc, 2, 1, 0), two(api.OpSts, 1, 2, 0), call(4), movi(1, 1), call(5), two(api.OpLds, 6, 1, 2), two(api.OpAdd, 0, 6, 0), exit,
	}
}

// P7.1: what comes in stays as it was, what is behind it too, and what was answered hangs on it no more.
func TestApart(t *testing.T) {
	ins := append(busy(), movi(1, 1), movi(2, 2))
	context, answers := bytesOf(12), []uint32{5, 6, 7, 8}
	wasIns, wasContext, wasAnswers := slices.Clone(ins), slices.Clone(context), slices.Clone(answers)
	p := api.Program{Context: 8, Ins: ins[:len(busy())]}
	ran, moments := hold(t, p, context[:8], answers[:2]...)
	if !slices.Equal(ins, wasIns) || !slices.Equal(context, wasContext) || !slices.Equal(answers, wasAnswers) {
		t.Errorf("changed: %v %v %v", ins, context, answers)
	}
	want, wantMoments := modelOf(p, context[:8], answers[:2])
	clear(ins)
	clear(context)
	clear(answers)
	if !same(ran, want) || !slices.Equal(moments, wantMoments) {
		t.Errorf("hangs on what came in: %+v %+v", ran, moments)
	}
}

// P7.1: a faulting run, and one that is refused, leave what comes in as it was too.
func TestApartOfFaults(t *testing.T) {
	for _, i := range []api.Ins{mov(0, 9), two(api.OpDiv, 7, 7, 0), two(api.OpSts, 7, 7, 64), two(api.OpLdc, 7, 7, -1), ja(200), {Op: 99}} {
		ins := append([]api.Ins{movi(7, 0), movi(8, 9), two(api.OpSts, 7, 8, 1), call(1)}, i, exit)
		context, answers := bytesOf(8), []uint32{5, 6}
		was := slices.Clone(ins)
		p := api.Program{Context: 8, Ins: ins}
		vm.Run(p, context, answers...)
		vm.Trace(p, context, answers...)
		vm.Run(p, context[:7], answers...)
		if !slices.Equal(ins, was) || !slices.Equal(context, bytesOf(8)) || !slices.Equal(answers, []uint32{5, 6}) {
			t.Errorf("%+v: changed: %v %v %v", i, ins, context, answers)
		}
	}
}

// P7.1: two answers share nothing.
func TestAnswersApart(t *testing.T) {
	p := api.Program{Context: 8, Ins: busy()}
	a, stoodA := hold(t, p, bytesOf(8), 5, 6)
	b, stoodB := hold(t, p, bytesOf(8), 5, 6)
	clear(a.Calls[:cap(a.Calls)])
	clear(stoodA[:cap(stoodA)])
	want, wantMoments := modelOf(p, bytesOf(8), []uint32{5, 6})
	if !same(b, want) || !slices.Equal(stoodB, wantMoments) {
		t.Errorf("%+v %+v", b, stoodB)
	}
}

// P7.1: what ran ahead leaves no trace: neither what it stored, nor answers that it did not take, nor that it faulted.
func TestNothingIsKept(t *testing.T) {
	p := api.Program{Context: 8, Ins: busy()}
	for range 3 {
		vm.Run(of(movi(1, 5), two(api.OpSts, 1, 1, 0), exit), nil, 1, 2, 3)
		vm.Trace(of(call(0), movi(9, 5), ja(9)), nil, 1, 2, 3)
		vm.Run(api.Program{Context: -1}, nil)
		if ran, _ := hold(t, p, bytesOf(8)); ran.Scratch[5] != 0 || ran.Calls[0].Args[0] != 3 {
			t.Fatalf("%+v", ran)
		}
	}
}
