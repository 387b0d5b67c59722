package vm_test

import (
	"testing"

	"cachet/api"
	"cachet/check"
)

// well holds that a run of an extension that layer 6 lets run goes well, and within what layer 6 knows.
func well(t *testing.T, p api.Program, known []api.Known, context []byte, answers ...uint32) (api.Ran, []api.Moment) {
	t.Helper()
	ran, moments := hold(t, p, context, answers...)
	if ran.Fault != api.FaultNone || ran.Steps > len(p.Ins) || p.Ins[ran.At].Op != api.OpExit {
		t.Fatalf("%+v over %v with %v: %+v", p, context, answers, ran)
	}
	for _, m := range moments {
		k := known[m.At]
		if !k.Come {
			t.Fatalf("%+v over %v with %v: at %d, where it does not come to", p, context, answers, m.At)
		}
		for n, o := range k.Regs {
			if o.Set && (!m.Set[n] || m.Regs[n] < o.Least || m.Regs[n] > o.Great) {
				t.Fatalf("%+v over %v with %v: register %d, %+v, is not within %+v", p, context, answers, n, m, o)
			}
		}
	}
	return ran, moments
}

// P7.2: extensions that layer 6 lets run, over contexts and answers of all kinds.
func TestWhatMayRunRunsWell(t *testing.T) {
	r := dice(2)
	done := map[api.Op]int{}
	for range 2500 {
		p := goodProgram(r)
		known, e := check.Known(p)
		if e != api.OK {
			t.Fatalf("%+v: %v", p, e)
		}
		for range 8 {
			ran, moments := well(t, p, known, anyContext(r, p.Context), anyAnswers(r, p)...)
			for _, m := range moments[:ran.Steps] {
				done[p.Ins[m.At].Op]++
			}
		}
	}
	for op := range lines {
		if done[op] < 500 {
			t.Errorf("too few of Op %d: %v", op, done)
		}
	}
}

// P7.2: the same of extensions one part of which is another one then, where layer 6 lets them run still.
func TestWhatMayRunStillRunsWell(t *testing.T) {
	r := dice(3)
	ran, refused := 0, 0
	for range 2500 {
		p := goodProgram(r)
		at := 1 + r.IntN(len(p.Ins)-1)
		p.Ins[at] = anyIns(r, 255)
		known, e := check.Known(p)
		if e != api.OK {
			refused++
			hold(t, p, anyContext(r, p.Context), anyAnswers(r, p)...)
			continue
		}
		ran++
		for range 4 {
			well(t, p, known, anyContext(r, p.Context), anyAnswers(r, p)...)
		}
	}
	if ran < 500 || refused < 500 {
		t.Errorf("too few: %d ran, %d did not", ran, refused)
	}
}

// P7.2: words at both ends of what layer 6 knows are reached: an answer is kept within a context by a jump, by a mask, by a rest.
func TestWellAtTheEnds(t *testing.T) {
	for name, c := range map[string]struct {
		ins []api.Ins
		end func(answer uint32) uint32 // to which byte it leads
	}{
		"by a jump": {
			[]api.Ins{call(0), with(api.OpJlti, 0, 4, 1), movi(0, 0), two(api.OpLdc, 0, 0, 0), exit},
			func(n uint32) uint32 {
				if n < 4 {
					return n
				}
				return 0
			},
		},
		"by a mask": {[]api.Ins{call(0), with(api.OpAndi, 0, 3, 0), two(api.OpLdc, 0, 0, 0), exit}, func(n uint32) uint32 { return n % 4 }},
		"by a rest": {[]api.Ins{call(0), movi(1, 4), two(api.OpMod, 0, 1, 0), two(api.OpLdc, 0, 0, 0), exit}, func(n uint32) uint32 { return n % 4 }},
		"by a shift": {
			[]api.Ins{call(0), with(api.OpShri, 0, 30, 0), two(api.OpLdc, 0, 0, 0), exit},
			func(n uint32) uint32 { return n >> 30 },
		},
		"by a jump of two": {
			[]api.Ins{call(0), movi(1, 4), two(api.OpJlt, 0, 1, 1), movi(0, 3), two(api.OpLdc, 0, 0, 0), exit},
			func(n uint32) uint32 { return min(n, 3) },
		},
	} {
		p := api.Program{Context: 4, Ins: c.ins}
		known, e := check.Known(p)
		if e != api.OK {
			t.Fatalf("%s: %v", name, e)
		}
		context := []byte{11, 22, 33, 44}
		for _, answer := range append(edges, 4, 5, 1<<30-1, 1<<30, 3<<30) {
			ran, _ := well(t, p, known, context, answer)
			if want := uint32(context[c.end(answer)]); ran.Value != want {
				t.Errorf("%s of %d: %+v, want %d", name, answer, ran, want)
			}
		}
	}
}

// P7.2: as many steps as instructions, and no more.
func TestAsManySteps(t *testing.T) {
	for _, size := range []int{2, 3, 100, 255, 256} {
		l := make([]api.Ins, size)
		for n := range l {
			l[n] = with(api.OpJlti, 0, uint32(n), 0)
		}
		l[0], l[size-1] = movi(0, 50), exit
		known, e := check.Known(of(l...))
		if e != api.OK {
			t.Fatal(e)
		}
		if ran, _ := well(t, of(l...), known, nil); ran.Steps != size {
			t.Errorf("%d: %+v", size, ran)
		}
	}
}
