package check_test

import (
	"slices"
	"testing"

	"cachet/api"
	"cachet/check"
)

// plain is an extension in which ways part and meet, and some is not come to.
func plain() []api.Ins {
	return []api.Ins{call, jlti(0, 4, 1), movi(0, 0), two(api.OpLdc, 6, 0, 0), jeqi(0, 9, 0), ja(1), exit, exit}
}

// P6.1: the instructions that come in stay as they were, those behind them too, and what is known hangs on them no more.
func TestKnownApart(t *testing.T) {
	room := append(plain(), movi(1, 1), movi(2, 2))
	was := slices.Clone(room)
	p := api.Program{Context: 4, Ins: room[:len(plain())]}
	known, e := check.Known(p)
	if e != api.OK || check.Check(p) != api.OK || !slices.Equal(room, was) {
		t.Fatalf("changed: %v %v", e, room)
	}
	want := slices.Clone(known)
	other, _ := check.Known(p)
	clear(room)
	if !slices.Equal(known, want) {
		t.Error("what is known hangs on the instructions")
	}
	clear(known[:cap(known)])
	if !slices.Equal(other, want) {
		t.Error("two answers share what is known")
	}
}

// P6.1: an extension that is refused stays as it was too.
func TestCheckApart(t *testing.T) {
	for _, bad := range []api.Ins{exit, two(api.OpDiv, 0, 0, 0), two(api.OpLds, 0, 0, 64), ja(9), {Op: 99}} {
		l := append([]api.Ins{movi(7, 0)}, bad, exit)
		was := slices.Clone(l)
		if e := check.Check(api.Program{Ins: l}); e == api.OK || !slices.Equal(l, was) {
			t.Errorf("%+v: %v %v", bad, e, l)
		}
	}
}

// P6.1, P6.2: what was asked ahead leaves no trace, an error neither.
func TestNothingIsKept(t *testing.T) {
	want, _ := check.Known(api.Program{Context: 4, Ins: plain()})
	next, jumped, _ := check.Behind(jlti(0, 3, 1), 0, crowd())
	for range 3 {
		if e := check.Check(api.Program{Ins: []api.Ins{exit}}); e != api.ErrUnset {
			t.Fatal(e)
		}
		if e := check.Check(api.Program{Context: -1}); e != api.ErrArg {
			t.Fatal(e)
		}
		if _, _, e := check.Behind(exit, 0, regs()); e != api.ErrUnset {
			t.Fatal(e)
		}
		if known, e := check.Known(api.Program{Context: 4, Ins: plain()}); e != api.OK || !slices.Equal(known, want) {
			t.Fatalf("%v %v", known, e)
		}
		if n, j, e := check.Behind(jlti(0, 3, 1), 0, crowd()); n != next || j != jumped || e != api.OK {
			t.Fatalf("%v %v %v", n, j, e)
		}
	}
}
