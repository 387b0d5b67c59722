package code_test

import (
	"testing"

	"cachet/api"
	"cachet/code"
)

// P5.2: the name of each Op, and none of what is no Op.
func TestName(t *testing.T) {
	for _, op := range opsAround() {
		r, want := rowOf(op)
		if s, is := code.Name(op); s != r.name || is != want {
			t.Errorf("%d: %q %v, want %q %v", op, s, is, r.name, want)
		}
	}
	for op, want := range map[api.Op]string{api.OpMovi: "movi", api.OpMod: "mod", api.OpLdc: "ldc", api.OpJlt: "jlt", api.OpCall: "call", api.OpExit: "exit"} {
		if s, is := code.Name(op); s != want || !is {
			t.Errorf("%d: %q %v, want %q", op, s, is, want)
		}
	}
}

// P5.2: the text of each Op, by hand.
func TestTextKnown(t *testing.T) {
	want := []string{
		"movi r9, 4294967295", "mov r1, r2", "addi r3, 1", "add r4, r5", "sub r6, r7", "muli r8, 258", "mul r9, r9", "andi r0, 65280",
		"and r0, r1", "or r2, r3", "xor r4, r4", "shli r5, 31", "shri r6, 0", "div r7, r8", "mod r8, r7", "ldc r1, r0, -32768",
		"lds r1, r2, -1", "sts r2, r1, +32767", "ja +255", "jeqi r3, 305419896, +4", "jlti r4, 2147483648, +0", "jlt r5, r6, +7", "call 7", "exit",
	}
	for n, i := range all.Ins {
		if s, e := code.Text(i); s != want[n] || e != api.OK {
			t.Errorf("%+v: %q %v, want %q", i, s, e, want[n])
		}
	}
	for _, c := range []struct {
		i    api.Ins
		want string
	}{
		{api.Ins{Op: api.OpJa}, "ja +0"},
		{api.Ins{Op: api.OpLdc, Dst: 3, Src: 4}, "ldc r3, r4, +0"},
		{api.Ins{Op: api.OpSts, Off: -10}, "sts r0, r0, -10"},
		{api.Ins{Op: api.OpMovi}, "movi r0, 0"},
		{api.Ins{Op: api.OpCall}, "call 0"},
	} {
		if s, e := code.Text(c.i); s != c.want || e != api.OK {
			t.Errorf("%+v: %q %v, want %q", c.i, s, e, c.want)
		}
	}
}

// P5.2: the text of what may be, ErrArg and no text of what may not be.
func TestText(t *testing.T) {
	around(func(i api.Ins) {
		s, e := code.Text(i)
		if !mayBe(i) && (s != "" || e != api.ErrArg) {
			t.Fatalf("%+v: %q %v", i, s, e)
		}
		if mayBe(i) && (s != textOf(i) || e != api.OK) {
			t.Fatalf("%+v: %q %v, want %q", i, s, e, textOf(i))
		}
	})
}
