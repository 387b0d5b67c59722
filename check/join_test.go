package check_test

import (
	"testing"

	"cachet/api"
	"cachet/check"
)

// P6.2: two ways that are gone: from the least to the greatest, of each register by itself.
func TestJoin(t *testing.T) {
	for _, c := range []struct{ a, b, want api.Range }{
		{only(3), only(3), only(3)},
		{only(3), only(9), between(3, 9)},
		{between(3, 5), between(4, 9), between(3, 9)},
		{between(3, 9), between(4, 5), between(3, 9)},
		{between(0, 1), only(greatest), anyWord},
		{anyWord, only(7), anyWord},
		{anyWord, anyWord, anyWord},
		{only(0), only(0), only(0)},
		{unknown, unknown, unknown},
		{unknown, only(0), unknown},
		{unknown, anyWord, unknown},
		{unknown, between(3, 9), unknown},
	} {
		for n := range api.Registers {
			a, b, want := put(crowd(), n, c.a), put(crowd(), n, c.b), put(crowd(), n, c.want)
			if k := check.Join(a, b); k != want {
				t.Errorf("%v and %v: %v, want %v", a, b, k, want)
			}
			if k := check.Join(b, a); k != want {
				t.Errorf("%v and %v: %v, want %v", b, a, k, want)
			}
		}
	}
	for _, a := range ranges() {
		for _, b := range ranges() {
			x, y := put(crowd(), 4, a), put(crowd(), 4, b)
			if k, want := check.Join(x, y), joinOf(x, y); k != want {
				t.Fatalf("%v and %v: %v, want %v", a, b, k, want)
			}
		}
	}
}

// P6.2: one way that is gone alone, by the other nothing is lost, whatever is known by it; of two that are not gone it is the second.
func TestJoinNotCome(t *testing.T) {
	come := crowd()
	gone := api.Known{}
	gone.Regs[2], gone.Regs[9] = between(1, 2), only(5)
	other := api.Known{}
	other.Regs[3] = only(8)
	for _, c := range []struct{ a, b, want api.Known }{
		{come, gone, come},
		{gone, come, come},
		{come, nowhere, come},
		{nowhere, come, come},
		{regs(), gone, regs()},
		{gone, regs(), regs()},
		{gone, other, other},
		{other, gone, gone},
		{gone, nowhere, nowhere},
		{nowhere, gone, gone},
		{nowhere, nowhere, nowhere},
	} {
		if k := check.Join(c.a, c.b); k != c.want {
			t.Errorf("%v and %v: %v, want %v", c.a, c.b, k, c.want)
		}
	}
}
