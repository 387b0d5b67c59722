package vm_test

import (
	"slices"
	"testing"

	"cachet/api"
)

// P7.1: each call takes the next answer; behind the last one it is 0.
func TestAnswers(t *testing.T) {
	l := []api.Ins{movi(9, 0)}
	for range 4 {
		l = append(l, with(api.OpMuli, 9, 16, 0), call(0), two(api.OpAdd, 9, 0, 0))
	}
	p := of(append(l, mov(0, 9), exit)...)
	for _, c := range []struct {
		answers []uint32
		want    uint32
	}{
		{nil, 0}, {[]uint32{}, 0}, {[]uint32{1}, 0x1000}, {[]uint32{1, 2}, 0x1200}, {[]uint32{1, 2, 3, 4}, 0x1234}, {[]uint32{1, 2, 3, 4, 5, 6}, 0x1234}, {[]uint32{0, 0, 0, greatest}, greatest},
	} {
		ran, _ := hold(t, p, nil, c.answers...)
		if ran.Value != c.want || len(ran.Calls) != 4 || ran.Steps != len(p.Ins) {
			t.Errorf("%v: %+v, want %d", c.answers, ran, c.want)
		}
	}
	// Without a call no answer is taken.
	if ran, _ := hold(t, of(movi(0, 3), exit), nil, 9); ran.Value != 3 || len(ran.Calls) != 0 {
		t.Errorf("%+v", ran)
	}
}

// P7.1: a call sets register 0, whether it was set or not, unsets 1 to 5, and leaves all others.
func TestCallRegisters(t *testing.T) {
	for _, c := range []struct {
		ahead []api.Ins
		want  api.Moment
	}{
		{nil, api.Moment{At: 1, Set: [10]bool{true}, Regs: [10]uint32{8}}},
		{full(), api.Moment{
			At: 11, Set: [10]bool{0: true, 6: true, 7: true, 8: true, 9: true}, Regs: [10]uint32{0: 8, 6: 69, 7: 80, 8: 91, 9: 102},
		}},
	} {
		_, moments := hold(t, of(append(c.ahead, call(2), exit)...), nil, 8)
		if is := moments[len(moments)-1]; is != c.want {
			t.Errorf("%+v, want %+v", is, c.want)
		}
	}
	for n := 1; n <= 5; n++ {
		if ran, _ := hold(t, of(movi(n, 1), call(0), mov(0, n), exit), nil, 8); ran.Fault != api.FaultUnset || ran.At != 2 {
			t.Errorf("register %d: %+v", n, ran)
		}
		// It may be set again.
		if ran, _ := hold(t, of(movi(n, 1), call(0), movi(n, 6), mov(0, n), exit), nil, 8); ran.Value != 6 {
			t.Errorf("register %d: %+v", n, ran)
		}
	}
	for n := 6; n <= 9; n++ {
		if ran, _ := hold(t, of(movi(n, 17), call(0), mov(0, n), exit), nil, 8); ran.Value != 17 {
			t.Errorf("register %d: %+v", n, ran)
		}
	}
}

// P7.1: a call is told with its helper, and with what 1 to 5 were: 0 where one was not set, or is not any more.
func TestCallsTold(t *testing.T) {
	for helper := range uint32(api.Helpers) {
		for n := range api.Registers {
			ran, _ := hold(t, of(movi(n, greatest), call(helper), exit), nil)
			want := api.Call{Helper: int(helper)}
			if n >= 1 && n <= 5 {
				want.Args[n-1] = greatest
			}
			if !slices.Equal(ran.Calls, []api.Call{want}) {
				t.Errorf("register %d: %+v, want %+v", n, ran.Calls, want)
			}
		}
	}
	ran, _ := hold(t, of(append(full(), call(7), movi(2, 5), call(1), call(0), movi(5, 1), call(7), exit)...), nil, 1, 2)
	want := []api.Call{{Helper: 7, Args: [5]uint32{14, 25, 36, 47, 58}}, {Helper: 1, Args: [5]uint32{0, 5}}, {Helper: 0}, {Helper: 7, Args: [5]uint32{4: 1}}}
	if !slices.Equal(ran.Calls, want) {
		t.Errorf("%+v, want %+v", ran.Calls, want)
	}
}

// P7.1: as many calls as may be.
func TestManyCalls(t *testing.T) {
	l := make([]api.Ins, api.MaxCode)
	for n := range l {
		l[n] = call(uint32(n % 8))
	}
	l[api.MaxCode-1] = exit
	answers := make([]uint32, api.MaxCode)
	for n := range answers {
		answers[n] = uint32(1000 + n)
	}
	ran, _ := hold(t, of(l...), nil, answers...)
	if len(ran.Calls) != 255 || ran.Value != 1254 || ran.Steps != 256 || ran.Calls[254].Helper != 6 {
		t.Errorf("%+v", ran)
	}
}
