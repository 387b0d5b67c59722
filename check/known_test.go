package check_test

import (
	"math"
	"slices"
	"testing"

	"cachet/api"
	"cachet/check"
)

func movi(register int, n uint32) api.Ins { return api.Ins{Op: api.OpMovi, Dst: register, Imm: n} }
func ja(off int) api.Ins                  { return api.Ins{Op: api.OpJa, Off: off} }
func jeqi(register int, n uint32, off int) api.Ins {
	return api.Ins{Op: api.OpJeqi, Dst: register, Imm: n, Off: off}
}
func jlti(register int, n uint32, off int) api.Ins {
	return api.Ins{Op: api.OpJlti, Dst: register, Imm: n, Off: off}
}
func two(op api.Op, d, s, off int) api.Ins { return api.Ins{Op: op, Dst: d, Src: s, Off: off} }

var call = api.Ins{Op: api.OpCall}

// ask asks Check and Known, which must answer the same error, and no list beside one.
func ask(t *testing.T, p api.Program) ([]api.Known, api.Errno) {
	t.Helper()
	known, e := check.Known(p)
	if c := check.Check(p); c != e {
		t.Errorf("%+v: Check %v, Known %v", p, c, e)
	}
	if e != api.OK && known != nil || e == api.OK && len(known) != len(p.Ins) {
		t.Errorf("%+v: %d known, %v", p, len(known), e)
	}
	return known, e
}

// regs is what is known where an instruction is come to, of the registers from 0 on.
func regs(l ...api.Range) api.Known {
	k := api.Known{Come: true}
	copy(k.Regs[:], l)
	return k
}

// P6.1: the document's examples, whole.
func TestKnownExamples(t *testing.T) {
	load := two(api.OpLdc, 0, 0, 0)
	for _, c := range []struct {
		p    api.Program
		e    api.Errno
		want []api.Known
	}{
		{api.Program{Ins: []api.Ins{movi(0, 7), exit}}, api.OK, []api.Known{regs(), regs(only(7))}},
		{api.Program{Ins: []api.Ins{exit}}, api.ErrUnset, nil},
		{
			api.Program{Context: 4, Ins: []api.Ins{call, jlti(0, 4, 1), movi(0, 0), load, exit}}, api.OK,
			[]api.Known{regs(), regs(anyWord), regs(between(4, greatest)), regs(between(0, 3)), regs(aByte)},
		},
		{api.Program{Context: 4, Ins: []api.Ins{call, jlti(0, 4, 0), load, exit}}, api.ErrBounds, nil},
		{api.Program{Context: 3, Ins: []api.Ins{call, jlti(0, 4, 1), movi(0, 0), load, exit}}, api.ErrBounds, nil},
		{api.Program{Ins: []api.Ins{call, jlti(0, 4, 0), exit}}, api.OK, []api.Known{regs(), regs(anyWord), regs(anyWord)}},
	} {
		if known, e := ask(t, c.p); e != c.e || !slices.Equal(known, c.want) {
			t.Errorf("%+v: %v %v, want %v %v", c.p, known, e, c.want, c.e)
		}
	}
}

// P6.1: ways that meet: from the least to the greatest; nothing, where it is known by one alone.
func TestKnownMeet(t *testing.T) {
	p := api.Program{Ins: []api.Ins{
		call, // 0
		{Op: api.OpMov, Dst: 6},
		jeqi(0, 9, 4), // 2: to 7
		movi(1, 50),
		movi(2, 3),
		movi(3, 1),
		ja(3),        // 6: to 10
		movi(1, 40),  // 7
		movi(2, 100), // r3 is known by the other way alone, r4 by this one
		movi(4, 1),
		{Op: api.OpMov, Dst: 5, Src: 2}, // 10: both
		exit,
	}}
	known, e := ask(t, p)
	if e != api.OK {
		t.Fatal(e)
	}
	want := regs(anyWord, between(40, 50), between(3, 100))
	want.Regs[6] = anyWord
	if known[10] != want {
		t.Errorf("%v, want %v", known[10], want)
	}
	want.Regs[5] = between(3, 100)
	if known[11] != want {
		t.Errorf("%v, want %v", known[11], want)
	}
	for unset := 3; unset <= 4; unset++ {
		p.Ins[10].Src = unset
		if _, e := ask(t, p); e != api.ErrUnset {
			t.Errorf("register %d: %v", unset, e)
		}
	}
}

// P6.1: three ways that meet, two of them from jumps, and a way that is not gone and leads there too.
func TestKnownMeetOfMany(t *testing.T) {
	p := api.Program{Ins: []api.Ins{
		call,
		movi(1, 5),
		jeqi(1, 6, 4), // not jumped: what would be known there is not
		jeqi(0, 0, 3), // 3: to 7 with r0 0
		movi(1, 9),
		jlti(0, 100, 1), // 5: to 7 with r0 1 to 99
		movi(0, 1000),   // on to 7
		exit,
	}}
	known, e := ask(t, p)
	if e != api.OK || known[7] != regs(between(0, 1000), between(5, 9)) || known[6] != regs(between(100, greatest), only(9)) {
		t.Errorf("%v %v", known, e)
	}
}

// P6.1: what is not come to is not Come, nothing is known there, and nothing is wrong there, be it what it will.
func TestKnownNotCome(t *testing.T) {
	for _, bad := range []api.Ins{
		exit,                    // would be ErrUnset
		two(api.OpMov, 1, 2, 0), // likewise
		two(api.OpDiv, 7, 6, 0), // ErrDivide
		two(api.OpMod, 7, 6, 0),
		two(api.OpLdc, 1, 6, 0), // ErrBounds
		two(api.OpLds, 1, 6, -1),
		two(api.OpSts, 6, 6, 64),
		ja(255), // ErrJump
		jeqi(6, 0, 200),
		two(api.OpJlt, 6, 7, 3),
		movi(0, 1),
	} {
		for name, p := range map[string]api.Program{
			"behind ja":   {Ins: []api.Ins{movi(6, 0), movi(7, 1), ja(1), bad, movi(0, 3), exit}},
			"behind jeqi": {Ins: []api.Ins{movi(6, 0), movi(7, 1), jeqi(6, 0, 1), bad, movi(0, 3), exit}},
			"behind jlti": {Ins: []api.Ins{movi(6, 0), movi(7, 1), jlti(6, 1, 1), bad, movi(0, 3), exit}},
			"behind jlt":  {Ins: []api.Ins{movi(6, 0), movi(7, 1), two(api.OpJlt, 6, 7, 1), bad, movi(0, 3), exit}},
		} {
			known, e := ask(t, p)
			if e != api.OK || known[3] != nowhere || !known[4].Come || known[5].Regs[0] != only(3) {
				t.Errorf("%s, %+v: %v %v", name, bad, known, e)
			}
		}
		// Behind exit, as the last one, and by a jump that is not jumped.
		p := api.Program{Ins: []api.Ins{movi(0, 3), jeqi(0, 4, 1), exit, bad}}
		if known, e := ask(t, p); e != api.OK || !known[2].Come || known[3] != nowhere {
			t.Errorf("behind exit, %+v: %v %v", bad, known, e)
		}
	}
}

// P6.1: jumps that lead to the last instruction, and one behind it, also where they are not jumped.
func TestKnownJumps(t *testing.T) {
	for name, c := range map[string]struct {
		jump api.Ins // a jump that leads over as many as Off
		ever bool
	}{
		"ja":                  {ja(0), true},
		"jeqi, jumped":        {jeqi(0, 1, 0), true},
		"jeqi, both":          {jeqi(6, 1, 0), true},
		"jeqi, not jumped":    {jeqi(0, 2, 0), false},
		"jlti, jumped":        {jlti(0, 2, 0), true},
		"jlti, both":          {jlti(6, 2, 0), true},
		"jlti, not jumped":    {jlti(0, 1, 0), false},
		"jlt, jumped":         {two(api.OpJlt, 0, 7, 0), true},
		"jlt, both":           {two(api.OpJlt, 6, 7, 0), true},
		"jlt, not jumped":     {two(api.OpJlt, 7, 0, 0), false},
		"jlt, of one, unlike": {two(api.OpJlt, 6, 6, 0), false},
	} {
		for over := range 4 {
			l := []api.Ins{call, {Op: api.OpMov, Dst: 6}, movi(7, 9), movi(0, 1), c.jump}
			for range over {
				l = append(l, movi(1, 1))
			}
			p := api.Program{Ins: append(l, exit)}
			for off, want := range map[int]api.Errno{over: api.OK, over + 1: api.ErrJump, over + 2: api.ErrJump, 255: api.ErrJump} {
				p.Ins[4].Off = off
				known, e := ask(t, p)
				if e != want || e == api.OK && c.ever && over > 0 && known[5+over].Regs[1] != unknown {
					t.Errorf("%s over %d, off %d: %v %v, want %v", name, over, off, known, e, want)
				}
			}
			// As the last one it leads behind it, whatever its Off.
			p.Ins = p.Ins[:5]
			p.Ins[4].Off = 0
			if _, e := ask(t, p); e != api.ErrJump {
				t.Errorf("%s as the last one: %v", name, e)
			}
		}
	}
}

// P6.1: an extension that does not end in exit.
func TestKnownNoExit(t *testing.T) {
	for op := api.OpMovi; op < api.OpExit; op++ {
		i := api.Ins{Op: op}
		if op == api.OpDiv || op == api.OpMod {
			i.Src = 1
		}
		l := []api.Ins{movi(0, 0), movi(1, 1), i}
		if _, e := ask(t, api.Program{Context: 1, Ins: l}); e != api.ErrJump {
			t.Errorf("%d as the last one: %v", op, e)
		}
		if _, e := ask(t, api.Program{Context: 1, Ins: append(l, exit)}); e != api.OK {
			t.Errorf("%d with exit behind it: %v", op, e)
		}
	}
	for _, l := range [][]api.Ins{{movi(0, 7)}, {call}, {movi(0, 7), ja(0)}, {ja(0)}} {
		if _, e := ask(t, api.Program{Ins: l}); e != api.ErrJump {
			t.Errorf("%+v: %v", l, e)
		}
	}
	// What is last need not be come to.
	if _, e := ask(t, api.Program{Ins: []api.Ins{movi(0, 7), exit, movi(0, 8)}}); e != api.OK {
		t.Error(e)
	}
}

// P6.1: the order of errors: layer 5's, ErrEmpty, then those of the first instruction that is come to and has one, in their order.
func TestKnownOrder(t *testing.T) {
	var (
		unset  = two(api.OpAdd, 0, 5, 0)
		divide = two(api.OpDiv, 1, 0, 0)
		beyond = two(api.OpLdc, 1, 0, 9)
		astray = ja(200)
	)
	full := make([]api.Ins, api.MaxCode+1)
	for n := range full {
		full[n] = unset
	}
	bad := slices.Clone(full)
	bad[api.MaxCode].Imm = 1
	for name, c := range map[string]struct {
		p    api.Program
		want api.Errno
	}{
		"a context, no instructions":   {api.Program{Context: 257}, api.ErrArg},
		"a context below 0":            {api.Program{Context: -1}, api.ErrArg},
		"a context far off":            {api.Program{Context: math.MinInt, Ins: full}, api.ErrArg},
		"a context, many":              {api.Program{Context: 257, Ins: full}, api.ErrArg},
		"no instructions":              {api.Program{Context: 256}, api.ErrEmpty},
		"empty instructions":           {api.Program{Ins: []api.Ins{}}, api.ErrEmpty},
		"many, a bad one behind":       {api.Program{Ins: bad}, api.ErrArg},
		"many":                         {api.Program{Ins: full}, api.ErrLong},
		"as many as may be":            {api.Program{Ins: full[:api.MaxCode]}, api.ErrUnset},
		"a bad one, behind unset":      {api.Program{Ins: []api.Ins{unset, {}}}, api.ErrArg},
		"a bad one, not come to":       {api.Program{Ins: []api.Ins{movi(0, 1), exit, {Op: api.OpExit, Imm: 1}}}, api.ErrArg},
		"unset first":                  {api.Program{Ins: []api.Ins{movi(0, 0), unset, divide, beyond, astray}}, api.ErrUnset},
		"divide first":                 {api.Program{Ins: []api.Ins{movi(0, 0), movi(1, 1), divide, unset, beyond, astray}}, api.ErrDivide},
		"beyond first":                 {api.Program{Ins: []api.Ins{movi(0, 0), movi(1, 1), beyond, unset, divide, astray}}, api.ErrBounds},
		"astray first":                 {api.Program{Ins: []api.Ins{movi(0, 0), jeqi(0, 1, 200), unset, divide, beyond}}, api.ErrJump},
		"unset, divide of one":         {api.Program{Ins: []api.Ins{movi(0, 0), divide, exit}}, api.ErrUnset},
		"unset of S, of D":             {api.Program{Ins: []api.Ins{movi(1, 0), two(api.OpMod, 1, 0, 0), exit}}, api.ErrUnset},
		"unset, beyond of one":         {api.Program{Ins: []api.Ins{movi(0, 64), two(api.OpSts, 0, 1, 0), exit}}, api.ErrUnset},
		"unset, astray of one":         {api.Program{Ins: []api.Ins{jeqi(0, 1, 200), exit}}, api.ErrUnset},
		"divide, as the last one":      {api.Program{Ins: []api.Ins{movi(0, 0), movi(1, 1), divide}}, api.ErrDivide},
		"beyond, as the last one":      {api.Program{Ins: []api.Ins{movi(0, 0), movi(1, 1), beyond}}, api.ErrBounds},
		"unset, as the last one":       {api.Program{Ins: []api.Ins{movi(0, 0), unset}}, api.ErrUnset},
		"by a jump, ahead of on":       {api.Program{Ins: []api.Ins{call, jeqi(0, 5, 2), ja(0), two(api.OpDiv, 0, 0, 0), unset, exit}}, api.ErrDivide},
		"a way alone has it":           {api.Program{Ins: []api.Ins{call, jeqi(0, 0, 1), two(api.OpDiv, 0, 0, 0), two(api.OpMod, 0, 0, 0), exit}}, api.ErrDivide},
		"a place that is not come to":  {api.Program{Ins: []api.Ins{movi(0, 0), ja(1), divide, unset, exit}}, api.ErrUnset},
		"nothing known of an argument": {api.Program{Ins: []api.Ins{movi(1, 0), call, two(api.OpMov, 0, 1, 0), exit}}, api.ErrUnset},
	} {
		if _, e := ask(t, c.p); e != c.want {
			t.Errorf("%s: %v, want %v", name, e, c.want)
		}
	}
}

// P6.1: as many instructions as may be, with jumps as far as they lead.
func TestKnownLong(t *testing.T) {
	l := make([]api.Ins, api.MaxCode)
	for n := range l {
		l[n] = api.Ins{Op: api.OpAddi, Imm: 1}
	}
	l[0], l[api.MaxCode-1] = movi(0, 0), exit
	known, e := ask(t, api.Program{Context: 256, Ins: l})
	if e != api.OK || known[255] != regs(only(254)) || known[1] != regs(only(0)) {
		t.Errorf("%v %v", known, e)
	}
	l[1] = ja(253)
	if known, e = ask(t, api.Program{Ins: l}); e != api.OK || known[255] != regs(only(0)) || known[2] != nowhere || known[254] != nowhere {
		t.Errorf("%v %v", known, e)
	}
	l[1] = jlti(0, 1, 254)
	if _, e = ask(t, api.Program{Ins: l}); e != api.ErrJump {
		t.Error(e)
	}
	l[0] = jlti(0, 1, 254)
	if _, e = ask(t, api.Program{Ins: l}); e != api.ErrUnset {
		t.Error(e)
	}
	l[0], l[1] = ja(254), movi(0, 0)
	if _, e = ask(t, api.Program{Ins: l}); e != api.ErrUnset {
		t.Error(e)
	}
	l[0], l[api.MaxCode-1] = ja(255), movi(0, 1)
	if _, e = ask(t, api.Program{Ins: l}); e != api.ErrJump {
		t.Error(e)
	}
}
