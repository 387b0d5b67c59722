package vm_test

import (
	"math"
	"slices"
	"testing"

	"cachet/api"
	"cachet/vm"
)

const greatest = math.MaxUint32

var exit = api.Ins{Op: api.OpExit}

// edges are words at which something changes, those beside them, and some with bits all over.
var edges = []uint32{
	0, 1, 2, 3, 7, 8, 31, 32, 63, 64, 65, 255, 256, 257, 65535, 65536, 65537,
	0x12345678, 0x55555555, 0xaaaaaaaa, 1<<31 - 1, 1 << 31, 1<<31 + 1, greatest - 1, greatest,
}

func movi(register int, n uint32) api.Ins { return api.Ins{Op: api.OpMovi, Dst: register, Imm: n} }
func mov(d, s int) api.Ins                { return api.Ins{Op: api.OpMov, Dst: d, Src: s} }
func ja(off int) api.Ins                  { return api.Ins{Op: api.OpJa, Off: off} }
func call(helper uint32) api.Ins          { return api.Ins{Op: api.OpCall, Imm: helper} }

// with is an instruction of D and Imm.
func with(op api.Op, d int, imm uint32, off int) api.Ins {
	return api.Ins{Op: op, Dst: d, Imm: imm, Off: off}
}

// two is an instruction of two registers.
func two(op api.Op, d, s, off int) api.Ins { return api.Ins{Op: op, Dst: d, Src: s, Off: off} }

// of is an extension without a context.
func of(ins ...api.Ins) api.Program { return api.Program{Ins: ins} }

// same tells whether two runs are.
func same(a, b api.Ran) bool {
	return a.Steps == b.Steps && a.Fault == b.Fault && a.At == b.At && a.Value == b.Value && a.Scratch == b.Scratch && slices.Equal(a.Calls, b.Calls)
}

// hold runs an extension that may be, and holds what Run and Trace answer against the model.
func hold(t *testing.T, p api.Program, context []byte, answers ...uint32) (api.Ran, []api.Moment) {
	t.Helper()
	ran, e := vm.Run(p, context, answers...)
	moments, et := vm.Trace(p, context, answers...)
	want, wantMoments := modelOf(p, context, answers)
	if e != api.OK || !same(ran, want) {
		t.Fatalf("%+v over %v with %v:\nran %+v %v, want\n%+v", p, context, answers, ran, e, want)
	}
	if et != api.OK || !slices.Equal(moments, wantMoments) {
		t.Fatalf("%+v over %v with %v:\nstood %+v %v, want\n%+v", p, context, answers, moments, et, wantMoments)
	}
	return ran, moments
}

// P7.1: the document's examples, whole.
func TestExamples(t *testing.T) {
	for _, c := range []struct {
		p       api.Program
		answers []uint32
		want    api.Ran
		stood   []api.Moment
	}{
		{
			of(movi(0, 7), exit), nil, api.Ran{Steps: 2, At: 1, Value: 7},
			[]api.Moment{{}, {At: 1, Set: [10]bool{true}, Regs: [10]uint32{7}}},
		},
		{of(exit), nil, api.Ran{Fault: api.FaultUnset}, []api.Moment{{}}},
		{
			of(call(3), exit), []uint32{9}, api.Ran{Steps: 2, At: 1, Value: 9, Calls: []api.Call{{Helper: 3}}},
			[]api.Moment{{}, {At: 1, Set: [10]bool{true}, Regs: [10]uint32{9}}},
		},
	} {
		ran, moments := hold(t, c.p, nil, c.answers...)
		if !same(ran, c.want) || !slices.Equal(moments, c.stood) {
			t.Errorf("%+v: %+v %+v, want %+v %+v", c.p, ran, moments, c.want, c.stood)
		}
	}
}

// P7.1: a whole run by hand: bytes of a context, a jump, the scratch, a call.
func TestWholeRun(t *testing.T) {
	p := api.Program{Context: 3, Ins: []api.Ins{
		movi(1, 0),                         // 0
		two(api.OpLdc, 2, 1, 0),            // r2 = 10
		two(api.OpLdc, 3, 1, 2),            // r3 = 30
		two(api.OpAdd, 2, 3, 0),            // r2 = 40
		with(api.OpJlti, 2, 41, 1),         // 4: to 6
		movi(2, 1000),                      // 5: not done
		two(api.OpSts, 1, 2, 5),            // 6: scratch 5 = 40
		call(6),                            // of 0, 40, 30, none, none; 500
		two(api.OpSts, 0, 0, -500),         // 8: scratch 0 = 244, the lowest byte of 500
		with(api.OpShri, 0, 1, 0),          // 250
		movi(1, 0), two(api.OpOr, 0, 1, 0), // 10, 11: as it was
		exit, // 12
		exit,
	}}
	ran, moments := hold(t, p, []byte{10, 20, 30}, 500, 600)
	want := api.Ran{Steps: 12, At: 12, Value: 250, Calls: []api.Call{{Helper: 6, Args: [5]uint32{0, 40, 30}}}}
	want.Scratch[0], want.Scratch[5] = 244, 40
	if !same(ran, want) {
		t.Errorf("%+v, want %+v", ran, want)
	}
	at := []int{0, 1, 2, 3, 4, 6, 7, 8, 9, 10, 11, 12}
	for n, m := range moments {
		if len(moments) != len(at) || m.At != at[n] {
			t.Fatalf("%d: %+v", n, moments)
		}
	}
	last := api.Moment{At: 12, Set: [10]bool{true, true}, Regs: [10]uint32{250, 0}}
	if moments[11] != last {
		t.Errorf("%+v, want %+v", moments[11], last)
	}
}
