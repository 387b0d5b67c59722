package vm_test

import (
	"math"
	"testing"

	"cachet/api"
	"cachet/vm"
)

// refused holds that neither Run nor Trace runs an extension over a context, and that both answer nothing else.
func refused(t *testing.T, p api.Program, context []byte) {
	t.Helper()
	for _, answers := range [][]uint32{nil, {1, 2}} {
		ran, e := vm.Run(p, context, answers...)
		moments, et := vm.Trace(p, context, answers...)
		if e != api.ErrArg || et != api.ErrArg || !same(ran, api.Ran{}) || len(moments) != 0 {
			t.Errorf("%d instructions, context %d, over %d: %+v %v, %+v %v", len(p.Ins), p.Context, len(context), ran, e, moments, et)
		}
	}
}

// P7.1: an extension that layer 5 refuses, wherever in it that is.
func TestRefusedByCode(t *testing.T) {
	for _, bad := range []api.Ins{
		{}, {Op: -1}, {Op: 25}, {Op: math.MaxInt}, {Op: math.MinInt}, {Op: 256 + api.OpExit},
		{Op: api.OpMovi, Dst: 10}, {Op: api.OpMovi, Dst: -1}, {Op: api.OpMovi, Src: 1}, {Op: api.OpMovi, Off: 1},
		{Op: api.OpMov, Src: 10}, {Op: api.OpMov, Src: math.MinInt}, {Op: api.OpAdd, Imm: 1},
		{Op: api.OpShli, Imm: 32}, {Op: api.OpShri, Imm: greatest}, {Op: api.OpCall, Imm: api.Helpers},
		{Op: api.OpLdc, Off: 32768}, {Op: api.OpSts, Off: -32769}, {Op: api.OpJa, Off: -1}, {Op: api.OpJa, Off: 256},
		{Op: api.OpJeqi, Off: math.MinInt}, {Op: api.OpJlt, Off: math.MaxInt}, {Op: api.OpExit, Imm: 1}, {Op: api.OpExit, Dst: 1},
	} {
		refused(t, of(bad), nil)
		refused(t, of(movi(0, 1), exit, bad), nil) // it is not come to
		refused(t, of(movi(0, 1), bad, exit), nil)
		refused(t, of(exit, bad), bytesOf(1))
	}
	for _, context := range []int{math.MinInt, -1, 257, 65536, math.MaxInt} {
		refused(t, api.Program{Context: context, Ins: []api.Ins{movi(0, 1), exit}}, nil)
		refused(t, api.Program{Context: context}, bytesOf(256))
	}
	refused(t, api.Program{Context: 257, Ins: []api.Ins{movi(0, 1), exit}}, bytesOf(257))
}

// P7.1: more instructions than may be are ErrArg too.
func TestRefusedAsTooLong(t *testing.T) {
	l := make([]api.Ins, api.MaxCode+1)
	for n := range l {
		l[n] = movi(0, 1)
	}
	l[1] = exit
	refused(t, of(l...), nil)
	refused(t, of(append(l, l...)...), nil)
	if ran, _ := hold(t, of(l[:api.MaxCode]...), nil); ran.Steps != 2 {
		t.Errorf("%+v", ran)
	}
}

// P7.1: a context that is shorter or longer than the extension says.
func TestRefusedContext(t *testing.T) {
	for _, says := range []int{0, 1, 4, 64, 255, 256} {
		p := api.Program{Context: says, Ins: []api.Ins{movi(0, 1), exit}}
		for _, size := range []int{0, 1, 2, 3, 4, 5, 63, 64, 65, 254, 255, 256, 257, 512, 65536 + says} {
			if size != says {
				refused(t, p, bytesOf(size))
				refused(t, api.Program{Context: says}, bytesOf(size))
			}
		}
		if ran, _ := hold(t, p, bytesOf(says)); ran.Value != 1 {
			t.Errorf("%d: %+v", says, ran)
		}
	}
	// Of none, nil and empty are the same; room behind it does not count.
	for _, none := range [][]byte{nil, {}, bytesOf(4)[:0]} {
		if ran, _ := hold(t, of(movi(0, 1), exit), none); ran.Value != 1 {
			t.Errorf("%+v", ran)
		}
		refused(t, api.Program{Context: 4, Ins: []api.Ins{movi(0, 1), exit}}, none)
	}
}

// P7.1: what layer 6 would refuse is run all the same, up to where it faults.
func TestNotRefusedByCheck(t *testing.T) {
	for _, p := range []api.Program{of(exit), of(), of(movi(0, 0)), of(ja(255)), of(movi(0, 0), two(api.OpDiv, 0, 0, 0)), of(movi(0, 99), two(api.OpLds, 0, 0, 0))} {
		if ran, _ := hold(t, p, nil); ran.Fault == api.FaultNone {
			t.Errorf("%+v: %+v", p, ran)
		}
	}
	// What layer 6 can't tell may run well.
	p := api.Program{Context: 4, Ins: []api.Ins{call(0), two(api.OpLdc, 0, 0, 0), exit}}
	if ran, _ := hold(t, p, bytesOf(4), 3); ran.Fault != api.FaultNone || ran.Value != uint32(bytesOf(4)[3]) {
		t.Errorf("%+v", ran)
	}
}
