package vm_test

import (
	"testing"

	"cachet/api"
)

// aJump is a jump, words of dst and of src, and whether it is taken then.
type aJump struct {
	ins   api.Ins
	d, s  uint32
	taken bool
}

// jumps are all kinds of jumps, with words at which they are taken, or are not.
func jumps() []aJump {
	jeqi, jlti, jlt := api.OpJeqi, api.OpJlti, api.OpJlt
	return []aJump{
		{ja(0), 0, 0, true},
		{with(jeqi, dst, 0, 0), 0, 9, true}, {with(jeqi, dst, 0, 0), 1, 9, false}, {with(jeqi, dst, 0, 0), greatest, 9, false},
		{with(jeqi, dst, 5, 0), 5, 9, true}, {with(jeqi, dst, 5, 0), 4, 9, false}, {with(jeqi, dst, 5, 0), 6, 5, false},
		{with(jeqi, dst, greatest, 0), greatest, 9, true}, {with(jeqi, dst, greatest, 0), greatest - 1, 9, false}, {with(jeqi, dst, greatest, 0), 0, 9, false},
		{with(jlti, dst, 0, 0), 0, 9, false}, {with(jlti, dst, 0, 0), greatest, 9, false}, {with(jlti, dst, 1, 0), 0, 9, true}, {with(jlti, dst, 1, 0), 1, 9, false},
		{with(jlti, dst, 5, 0), 4, 9, true}, {with(jlti, dst, 5, 0), 5, 9, false}, {with(jlti, dst, 5, 0), 6, 9, false}, {with(jlti, dst, 5, 0), 1 << 31, 9, false},
		{with(jlti, dst, 1<<31, 0), 1<<31 - 1, 9, true}, {with(jlti, dst, 1<<31, 0), 1 << 31, 9, false},
		{with(jlti, dst, greatest, 0), greatest - 1, 9, true}, {with(jlti, dst, greatest, 0), greatest, 9, false}, {with(jlti, dst, greatest, 0), 0, 9, true},
		{two(jlt, dst, src, 0), 0, 0, false}, {two(jlt, dst, src, 0), 0, 1, true}, {two(jlt, dst, src, 0), 1, 0, false},
		{two(jlt, dst, src, 0), greatest, 0, false}, {two(jlt, dst, src, 0), 0, greatest, true}, {two(jlt, dst, src, 0), greatest, greatest, false},
		{two(jlt, dst, src, 0), greatest - 1, greatest, true}, {two(jlt, dst, src, 0), 1<<31 - 1, 1 << 31, true}, {two(jlt, dst, src, 0), 1 << 31, 1<<31 - 1, false},
		{two(jlt, dst, dst, 0), 4, 9, false},
	}
}

// P7.1: jumps that are taken and that are not: to the next instruction, over some, to the last one, to the place behind it, and beyond.
func TestJumps(t *testing.T) {
	const ahead = 3 // how many instructions are ahead of the jump
	for _, c := range jumps() {
		for over := range 4 {
			l := []api.Ins{movi(dst, c.d), movi(src, c.s), movi(0, 100), c.ins}
			for range over {
				l = append(l, with(api.OpAddi, 0, 1, 0))
			}
			l = append(l, exit)
			for _, off := range []int{0, 1, 2, 3, 4, 5, 254, 255} {
				l[ahead].Off = off
				ran, moments := hold(t, of(l...), nil)
				to := ahead + 1
				if c.taken {
					to += off
				}
				want := api.Ran{Steps: ahead + 1, At: to, Fault: api.FaultJump}
				if to < len(l) {
					// It goes on from there: each instruction adds one, and the exit adds a step.
					done := len(l) - 1 - to
					want = api.Ran{Steps: ahead + 2 + done, At: len(l) - 1, Value: uint32(100 + done)}
				}
				if !same(ran, want) || moments[ahead+1].At != to {
					t.Errorf("%+v of %d and %d, off %d over %d: %+v %+v, want %+v", c.ins, c.d, c.s, off, over, ran, moments, want)
				}
				was, is := moments[ahead], moments[ahead+1]
				if was.Regs != is.Regs || was.Set != is.Set {
					t.Errorf("%+v changed registers: %+v %+v", c.ins, was, is)
				}
			}
		}
	}
}

// P7.1: one that does not end in exit leads behind the last instruction: At is as far as it led.
func TestBehindTheLast(t *testing.T) {
	for op := range lines {
		if op == api.OpExit {
			continue
		}
		i := api.Ins{Op: op}
		ran, moments := hold(t, api.Program{Context: 8, Ins: []api.Ins{movi(0, 7), i}}, bytesOf(8))
		if ran.Fault != api.FaultJump || ran.At != 2 || ran.Steps != 2 || ran.Value != 0 || moments[len(moments)-1].At != 2 {
			t.Errorf("%d: %+v %+v", op, ran, moments)
		}
	}
	for _, c := range []struct {
		p  api.Program
		at int
	}{
		{of(), 0}, {of(ja(0)), 1}, {of(ja(1)), 2}, {of(ja(255)), 256}, {of(movi(0, 1), ja(255)), 257}, {of(ja(1), ja(0), movi(0, 1)), 3}, {of(ja(0), ja(0), ja(7)), 10},
	} {
		ran, moments := hold(t, c.p, nil)
		if last := moments[len(moments)-1]; ran.Fault != api.FaultJump || ran.At != c.at || last.At != c.at {
			t.Errorf("%+v: %+v %+v, want %d", c.p, ran, last, c.at)
		}
	}
}

// P7.1: no instructions: nothing is done, there is none at 0.
func TestNoInstructions(t *testing.T) {
	for _, p := range []api.Program{{}, {Ins: []api.Ins{}}, {Context: 256}} {
		ran, moments := hold(t, p, bytesOf(p.Context), 5, 6)
		if !same(ran, api.Ran{Fault: api.FaultJump}) || len(moments) != 1 || moments[0] != (api.Moment{}) {
			t.Errorf("%+v: %+v %+v", p, ran, moments)
		}
	}
}

// P7.1: as many instructions as may be, each of them done; and jumps as far as they lead.
func TestLong(t *testing.T) {
	l := make([]api.Ins, api.MaxCode)
	for n := range l {
		l[n] = with(api.OpAddi, 0, 3, 0)
	}
	l[0] = movi(0, 0)
	if ran, moments := hold(t, of(l...), nil); ran.Steps != 256 || ran.At != 256 || ran.Fault != api.FaultJump || len(moments) != 257 {
		t.Errorf("%+v, %d moments", ran, len(moments))
	}
	l[255] = exit
	if ran, moments := hold(t, of(l...), nil); ran.Steps != 256 || ran.At != 255 || ran.Value != 254*3 || len(moments) != 256 {
		t.Errorf("%+v, %d moments", ran, len(moments))
	}
	l[1] = ja(253)
	if ran, moments := hold(t, of(l...), nil); ran.Steps != 3 || ran.At != 255 || ran.Value != 0 || moments[2].At != 255 {
		t.Errorf("%+v %+v", ran, moments)
	}
	l[255] = ja(255)
	if ran, _ := hold(t, of(l...), nil); ran.Steps != 3 || ran.At != 511 || ran.Fault != api.FaultJump {
		t.Errorf("%+v", ran)
	}
	for n := range l {
		l[n] = ja(0)
	}
	if ran, _ := hold(t, of(l...), nil); ran.Steps != 256 || ran.At != 256 || ran.Fault != api.FaultJump {
		t.Errorf("%+v", ran)
	}
}
