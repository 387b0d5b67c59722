package vm_test

import (
	"math"
	"slices"
	"testing"

	"cachet/api"
)

// bytesOf are so many bytes, no two of which are alike.
func bytesOf(size int) []byte {
	b := make([]byte, size)
	for n := range b {
		b[n] = byte(7*n + 3)
	}
	return b
}

// offs are how far ldc, lds and sts reach: both ends, and some between.
var offs = []int{math.MinInt16, math.MinInt16 + 1, -257, -64, -2, -1, 0, 1, 2, 63, 64, 255, 256, math.MaxInt16 - 1, math.MaxInt16}

// toPlace is the word that leads to a place together with Off, if there is one.
func toPlace(at int64, off int) (uint32, bool) {
	n := at - int64(off)
	return uint32(n), n >= 0 && n <= greatest
}

// around are places at both ends of so many bytes, those beside them, and the first and the last one that 2^32 more or less would bring there.
func around(size int) []int64 {
	l := []int64{-1, 0, 1, 1 << 32, 1<<32 + 1, -2}
	for _, at := range []int64{int64(size) - 1, int64(size), int64(size) + 1} {
		l = append(l, at, at+1<<32)
	}
	return l
}

// P7.1: ldc at both ends of contexts of each kind, and beside them.
func TestLoadContext(t *testing.T) {
	for _, size := range []int{0, 1, 2, 63, 64, 65, 255, 256} {
		context := bytesOf(size)
		for _, off := range offs {
			for _, at := range around(size) {
				n, is := toPlace(at, off)
				if !is {
					continue
				}
				p := api.Program{Context: size, Ins: []api.Ins{movi(8, n), two(api.OpLdc, 0, 8, off), exit}}
				ran, _ := hold(t, p, context)
				want := api.Ran{Steps: 1, At: 1, Fault: api.FaultBounds}
				if at >= 0 && at < int64(size) {
					want = api.Ran{Steps: 3, At: 2, Value: uint32(context[at])}
				}
				if !same(ran, want) {
					t.Errorf("context %d, ldc of %d and %d: %+v, want %+v", size, n, off, ran, want)
				}
			}
		}
	}
}

// P7.1: each byte of a context, by a register alone, by Off alone, and by one that is loaded into itself.
func TestLoadEach(t *testing.T) {
	context := bytesOf(256)
	for at, b := range context {
		for _, l := range [][]api.Ins{
			{movi(0, uint32(at)), two(api.OpLdc, 0, 0, 0), exit},
			{movi(1, 0), two(api.OpLdc, 0, 1, at), exit},
			{movi(9, 300), two(api.OpLdc, 0, 9, at-300), exit},
		} {
			if ran, _ := hold(t, api.Program{Context: 256, Ins: l}, context); ran.Value != uint32(b) || ran.Fault != api.FaultNone {
				t.Errorf("%+v: %+v, want %d", l, ran, b)
			}
		}
	}
}

// P7.1: lds and sts at both ends of the scratch, and beside them.
func TestScratchEnds(t *testing.T) {
	for _, off := range offs {
		for _, at := range around(api.Scratch) {
			n, is := toPlace(at, off)
			if !is {
				continue
			}
			inside := at >= 0 && at < api.Scratch
			ran, _ := hold(t, of(movi(8, n), two(api.OpLds, 0, 8, off), exit), nil)
			want := api.Ran{Steps: 1, At: 1, Fault: api.FaultBounds}
			if inside {
				want = api.Ran{Steps: 3, At: 2}
			}
			if !same(ran, want) {
				t.Errorf("lds of %d and %d: %+v, want %+v", n, off, ran, want)
			}
			ran, _ = hold(t, of(movi(8, n), movi(0, 200), two(api.OpSts, 8, 0, off), exit), nil)
			want = api.Ran{Steps: 2, At: 2, Fault: api.FaultBounds}
			if inside {
				want = api.Ran{Steps: 4, At: 3, Value: 200}
				want.Scratch[at] = 200
			}
			if !same(ran, want) {
				t.Errorf("sts of %d and %d: %+v, want %+v", n, off, ran, want)
			}
		}
	}
}

// P7.1: the scratch is noughts at first, whatever ran ahead of it; a byte that is stored is loaded again, and no other one changes.
func TestScratchEach(t *testing.T) {
	for at := range api.Scratch {
		ran, _ := hold(t, of(movi(1, uint32(at)), two(api.OpLds, 0, 1, 0), exit), nil)
		if ran.Value != 0 || ran.Scratch != [api.Scratch]byte{} {
			t.Errorf("%d at first: %+v", at, ran)
		}
		ran, _ = hold(t, of(movi(1, uint32(at)), movi(2, 99), two(api.OpSts, 1, 2, 0), movi(2, 0), two(api.OpLds, 0, 1, 0), exit), nil)
		want := [api.Scratch]byte{}
		want[at] = 99
		if ran.Value != 99 || ran.Scratch != want {
			t.Errorf("%d: %+v", at, ran)
		}
	}
	// Stored over, the latest one is there.
	ran, _ := hold(t, of(movi(1, 9), two(api.OpSts, 1, 1, 0), movi(2, 10), two(api.OpSts, 1, 2, 0), two(api.OpLds, 0, 1, 0), exit), nil)
	if ran.Value != 10 || ran.Scratch[9] != 10 {
		t.Errorf("%+v", ran)
	}
}

// P7.1: of a word the lowest byte is stored; the word stays.
func TestStoreLowest(t *testing.T) {
	for n, low := range map[uint32]byte{
		0: 0, 1: 1, 254: 254, 255: 255, 256: 0, 257: 1, 511: 255, 0x1234: 0x34, 65536: 0, 0x12345678: 0x78, 0xffffff00: 0, greatest - 1: 254, greatest: 255,
	} {
		ran, moments := hold(t, of(movi(1, 63), movi(0, n), two(api.OpSts, 1, 0, 0), two(api.OpLds, 2, 1, 0), exit), nil)
		if ran.Scratch[63] != low || ran.Value != n || moments[4].Regs[2] != uint32(low) {
			t.Errorf("%d: %+v %+v", n, ran, moments)
		}
	}
	// D and S may be one: its word is the place, and the byte.
	if ran, _ := hold(t, of(movi(0, 5), two(api.OpSts, 0, 0, 10), exit), nil); ran.Scratch[15] != 5 {
		t.Errorf("%+v", ran)
	}
}

// P7.1: the scratch is another one than the context, which is never stored to.
func TestScratchIsNoContext(t *testing.T) {
	context := bytesOf(64)
	p := api.Program{Context: 64, Ins: []api.Ins{
		movi(1, 0), movi(2, 77), two(api.OpSts, 1, 2, 4),
		two(api.OpLdc, 3, 1, 4), two(api.OpLds, 4, 1, 4), two(api.OpLds, 5, 1, 5), movi(0, 0), exit,
	}}
	ran, moments := hold(t, p, context)
	last := moments[len(moments)-1]
	if ran.Scratch[4] != 77 || last.Regs[3] != uint32(bytesOf(64)[4]) || last.Regs[4] != 77 || last.Regs[5] != 0 || !slices.Equal(context, bytesOf(64)) {
		t.Errorf("%+v %+v %v", ran, last, context)
	}
}
