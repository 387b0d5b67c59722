package check_test

import (
	"slices"
	"testing"

	"cachet/api"
	"cachet/check"
)

// P6.1: extensions of all kinds, against the model.
func TestKnownOfMany(t *testing.T) {
	r := dice(1)
	count := map[api.Errno]int{}
	for range 60000 {
		p := someProgram(r)
		known, e := ask(t, p)
		want, wantErr := knownOf(p)
		if e != wantErr || !slices.Equal(known, want) {
			t.Fatalf("%+v:\n%v %v, want\n%v %v", p, known, e, want, wantErr)
		}
		count[e]++
	}
	for _, e := range []api.Errno{api.OK, api.ErrUnset, api.ErrDivide, api.ErrBounds, api.ErrJump} {
		if count[e] < 100 {
			t.Errorf("too few of %v: %v", e, count)
		}
	}
}

// P6.2: instructions of all kinds over what may be known, against the model.
func TestBehindOfMany(t *testing.T) {
	r := dice(2)
	for range 300000 {
		hold(t, someIns(r, 255), r.IntN(257), someKnown(r))
	}
}

// P6.3: behind an instruction what is known of fewer ways is within what is known of more; what may run by more may run by fewer.
func TestFewerWays(t *testing.T) {
	r := dice(3)
	good := 0
	for range 300000 {
		i, context, fewer := someIns(r, 255), r.IntN(257), someKnown(r)
		wider := more(r, fewer)
		if !within(fewer, wider) {
			t.Fatalf("%v is not within %v", fewer, wider)
		}
		next, jumped, e := check.Behind(i, context, wider)
		if e != api.OK {
			continue
		}
		good++
		n, j, e := check.Behind(i, context, fewer)
		if e != api.OK || !within(n, next) || !within(j, jumped) {
			t.Fatalf("%+v of %v: %v %v %v; of %v: %v %v", i, fewer, n, j, e, wider, next, jumped)
		}
	}
	if good < 10000 {
		t.Errorf("too few: %d", good)
	}
}

// P6.3: what is known of each of two ways is within what is known of both.
func TestFewerWaysOfJoin(t *testing.T) {
	r := dice(4)
	for range 100000 {
		a, b := someKnown(r), someKnown(r)
		a.Come, b.Come = r.IntN(5) > 0, r.IntN(5) > 0
		both := check.Join(a, b)
		if !within(a, both) || !within(b, both) {
			t.Fatalf("%v and %v: %v", a, b, both)
		}
		wider := more(r, a)
		if !within(both, check.Join(wider, b)) || !within(check.Join(b, a), check.Join(b, wider)) {
			t.Fatalf("%v, within %v, and %v", a, wider, b)
		}
	}
}

// walk goes each way of an extension by itself, and tells of each place what is known there by that way alone. It ends where so many were told.
func walk(p api.Program, tell func(at int, k, next, jumped api.Known, e api.Errno)) {
	type place struct {
		at int
		k  api.Known
	}
	left := []place{{0, api.Known{Come: true}}}
	for told := 0; len(left) > 0 && told < 2000; told++ {
		here := left[len(left)-1]
		left = left[:len(left)-1]
		i := p.Ins[here.at]
		next, jumped, e := check.Behind(i, p.Context, here.k)
		tell(here.at, here.k, next, jumped, e)
		if next.Come {
			left = append(left, place{here.at + 1, next})
		}
		if jumped.Come {
			left = append(left, place{here.at + 1 + i.Off, jumped})
		}
	}
}

// P6.3: each way of an extension that may run ends at an exit, and what is known by it alone is within what is known of all.
func TestWaysEndAtExit(t *testing.T) {
	r := dice(5)
	ran := 0
	for range 60000 {
		p := someProgram(r)
		known, e := check.Known(p)
		if e != api.OK {
			continue
		}
		ran++
		walk(p, func(at int, k, next, jumped api.Known, e api.Errno) {
			ends := !next.Come && !jumped.Come
			out := next.Come && at+1 >= len(p.Ins) || jumped.Come && at+1+p.Ins[at].Off >= len(p.Ins)
			if e != api.OK || out || !within(k, known[at]) || ends != (p.Ins[at].Op == api.OpExit) {
				t.Fatalf("%+v: at %d %v, %v; %v %v %v", p, at, k, known[at], next, jumped, e)
			}
		})
	}
	if ran < 1000 {
		t.Errorf("too few may run: %d", ran)
	}
}
