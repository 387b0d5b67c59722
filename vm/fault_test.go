package vm_test

import (
	"testing"

	"cachet/api"
)

// P7.1: each Op needs just the registers that the document says, set; without one of them it faults there.
func TestUnset(t *testing.T) {
	for op, l := range lines {
		i := api.Ins{Op: op}
		switch {
		case hasSrc(op):
			i.Dst, i.Src = dst, src
		case op != api.OpJa && op != api.OpCall && op != api.OpExit:
			i.Dst = dst
		}
		for _, set := range []string{"", "d", "s", "0", "ds", "d0", "s0", "ds0"} {
			var ins []api.Ins
			has := map[rune]bool{}
			for _, part := range set {
				has[part] = true
				ins = append(ins, movi(map[rune]int{'d': dst, 's': src, '0': 0}[part], 1))
			}
			want := api.FaultNone
			for _, part := range l.needs {
				if !has[part] {
					want = api.FaultUnset
				}
			}
			at := len(ins)
			p := api.Program{Context: 8, Ins: append(ins, i, movi(0, 1), exit)}
			ran, moments := hold(t, p, bytesOf(8))
			if ran.Fault != want {
				t.Errorf("%+v where %q are set: %+v", i, set, ran)
			}
			if want == api.FaultUnset && (ran.At != at || ran.Steps != at || len(moments) != at+1) {
				t.Errorf("%+v where %q are set: %+v %+v", i, set, ran, moments)
			}
		}
	}
}

// P7.1: each register is not set at first, and is by what makes it.
func TestUnsetAtFirst(t *testing.T) {
	for n := range api.Registers {
		if ran, _ := hold(t, of(mov(0, n), exit), nil); !same(ran, api.Ran{Fault: api.FaultUnset}) {
			t.Errorf("%d: %+v", n, ran)
		}
		if ran, _ := hold(t, of(movi(n, 4), mov(0, n), exit), nil); !same(ran, api.Ran{Steps: 3, At: 2, Value: 4}) {
			t.Errorf("%d: %+v", n, ran)
		}
		if ran, _ := hold(t, of(movi(n, 4), mov((n+1)%10, n), mov(0, (n+1)%10), exit), nil); ran.Value != 4 {
			t.Errorf("%d: %+v", n, ran)
		}
	}
}

// P7.1: div and mod by 0, whatever D is.
func TestDivideByNought(t *testing.T) {
	for _, op := range []api.Op{api.OpDiv, api.OpMod} {
		for _, d := range edges {
			ran, moments := hold(t, over(op, d, 0), nil)
			if !same(ran, api.Ran{Steps: 2, At: 2, Fault: api.FaultDivide}) || len(moments) != 3 || moments[2].Regs[dst] != d {
				t.Errorf("%d of %d by 0: %+v %+v", op, d, ran, moments)
			}
		}
		// By itself, where it is 0.
		if ran, _ := hold(t, of(movi(0, 0), two(op, 0, 0, 0), exit), nil); !same(ran, api.Ran{Steps: 1, At: 1, Fault: api.FaultDivide}) {
			t.Errorf("%d: %+v", op, ran)
		}
	}
}

// P7.1: the order of faults: FaultUnset ahead of FaultDivide and of FaultBounds, those of the first instruction ahead of those behind it.
func TestFaultOrder(t *testing.T) {
	div, mod, sts, ldc, lds := api.OpDiv, api.OpMod, api.OpSts, api.OpLdc, api.OpLds
	for name, c := range map[string]struct {
		ins  []api.Ins
		want api.Fault
		at   int
	}{
		"unset D, div by 0":             {[]api.Ins{movi(1, 0), two(div, 0, 1, 0), exit}, api.FaultUnset, 1},
		"unset D, mod by 0":             {[]api.Ins{movi(1, 0), two(mod, 0, 1, 0), exit}, api.FaultUnset, 1},
		"unset S, which would be 0":     {[]api.Ins{movi(0, 5), two(div, 0, 1, 0), exit}, api.FaultUnset, 1},
		"unset S of mod":                {[]api.Ins{movi(0, 5), two(mod, 0, 1, 0), exit}, api.FaultUnset, 1},
		"unset S, sts beyond":           {[]api.Ins{movi(1, 64), two(sts, 1, 0, 0), exit}, api.FaultUnset, 1},
		"unset S, sts below 0":          {[]api.Ins{movi(1, 0), two(sts, 1, 0, -1), exit}, api.FaultUnset, 1},
		"unset D of sts, beyond":        {[]api.Ins{movi(0, 64), two(sts, 1, 0, 64), exit}, api.FaultUnset, 1},
		"unset S of ldc, beyond":        {[]api.Ins{movi(0, 64), two(ldc, 0, 1, 64), exit}, api.FaultUnset, 1},
		"unset S of lds, beyond":        {[]api.Ins{movi(0, 64), two(lds, 0, 1, -1), exit}, api.FaultUnset, 1},
		"unset D of a jump beyond":      {[]api.Ins{with(api.OpJeqi, 1, 0, 200), exit}, api.FaultUnset, 0},
		"unset, as the last one":        {[]api.Ins{movi(1, 1), two(api.OpAdd, 0, 1, 0)}, api.FaultUnset, 1},
		"divide, as the last one":       {[]api.Ins{movi(1, 0), two(div, 1, 1, 0)}, api.FaultDivide, 1},
		"bounds, as the last one":       {[]api.Ins{movi(1, 64), two(sts, 1, 1, 0)}, api.FaultBounds, 1},
		"divide, then unset":            {[]api.Ins{movi(1, 0), two(div, 1, 1, 0), exit}, api.FaultDivide, 1},
		"bounds, then divide":           {[]api.Ins{movi(1, 0), two(ldc, 1, 1, 0), two(div, 1, 1, 0), exit}, api.FaultBounds, 1},
		"a jump over what would fault":  {[]api.Ins{movi(0, 0), ja(2), two(div, 0, 0, 0), two(ldc, 0, 0, 0), exit}, api.FaultNone, 4},
		"a jump to what faults":         {[]api.Ins{movi(0, 0), ja(1), exit, two(div, 0, 0, 0), two(ldc, 0, 0, 0)}, api.FaultDivide, 3},
		"behind the exit is nothing":    {[]api.Ins{movi(0, 0), exit, two(div, 0, 0, 0)}, api.FaultNone, 1},
		"a jump beyond, not taken":      {[]api.Ins{movi(0, 0), with(api.OpJeqi, 0, 1, 255), exit}, api.FaultNone, 2},
		"a jump beyond, not taken, jlt": {[]api.Ins{movi(0, 0), two(api.OpJlt, 0, 0, 255), exit}, api.FaultNone, 2},
	} {
		ran, moments := hold(t, of(c.ins...), nil)
		if ran.Fault != c.want || ran.At != c.at || moments[len(moments)-1].At != c.at {
			t.Errorf("%s: %+v", name, ran)
		}
	}
}

// P7.1: what is told of a run that faults: what was done up to there, and no Value; of one that ends it is all told too.
func TestToldOfAFault(t *testing.T) {
	ahead := []api.Ins{movi(0, 70), movi(1, 9), movi(2, 300), two(api.OpSts, 1, 2, 0), call(5), two(api.OpSts, 0, 0, -20)}
	calls := []api.Call{{Helper: 5, Args: [5]uint32{9, 300}}}
	for _, c := range []struct {
		ins  []api.Ins
		want api.Ran
	}{
		{[]api.Ins{exit}, api.Ran{Steps: 7, At: 6, Value: 21}},
		{[]api.Ins{mov(0, 1), exit}, api.Ran{Steps: 6, At: 6, Fault: api.FaultUnset}},
		{[]api.Ins{movi(6, 0), two(api.OpDiv, 0, 6, 0), exit}, api.Ran{Steps: 7, At: 7, Fault: api.FaultDivide}},
		{[]api.Ins{two(api.OpLdc, 0, 0, 0), exit}, api.Ran{Steps: 6, At: 6, Fault: api.FaultBounds}},
		{[]api.Ins{two(api.OpSts, 0, 0, 64), exit}, api.Ran{Steps: 6, At: 6, Fault: api.FaultBounds}},
		{[]api.Ins{ja(9), exit}, api.Ran{Steps: 7, At: 16, Fault: api.FaultJump}},
		{nil, api.Ran{Steps: 6, At: 6, Fault: api.FaultJump}},
	} {
		c.want.Calls = calls
		c.want.Scratch[9], c.want.Scratch[1] = 44, 21
		ran, moments := hold(t, of(append(ahead[:len(ahead):len(ahead)], c.ins...)...), nil, 21)
		if !same(ran, c.want) {
			t.Errorf("%+v: %+v, want %+v", c.ins, ran, c.want)
		}
		more := 0
		if c.want.Fault != api.FaultNone {
			more = 1
		}
		if len(moments) != c.want.Steps+more {
			t.Errorf("%+v: %+v", c.ins, moments)
		}
	}
}
