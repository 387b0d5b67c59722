package code_test

import (
	"bytes"
	"encoding/hex"
	"slices"
	"testing"

	"cachet/api"
	"cachet/code"
)

// P5.1: the instructions that come in stay as they were, those behind them too, and the bytes hang on them no more.
func TestEncodeApart(t *testing.T) {
	room := many(20)
	was := slices.Clone(room)
	p := api.Program{Context: 5, Ins: room[:12]}
	if e := code.Check(p); e != api.OK {
		t.Fatal(e)
	}
	b, e := code.Encode(p)
	if e != api.OK || !slices.Equal(room, was) {
		t.Fatalf("changed: %v %v", e, room)
	}
	want := slices.Clone(b)
	other, _ := code.Encode(p)
	clear(room)
	if !bytes.Equal(b, want) {
		t.Error("the bytes hang on the instructions")
	}
	clear(b[:cap(b)])
	if !bytes.Equal(other, want) {
		t.Error("two answers share bytes")
	}
}

// P5.1: the bytes that come in stay as they were, those behind them too, and the extension hangs on them no more.
func TestDecodeApart(t *testing.T) {
	whole, _ := hex.DecodeString(allBytes)
	room := append(whole, "what is behind"...)
	was := slices.Clone(room)
	b := room[:len(allBytes)/2]
	p, e := code.Decode(b)
	if e != api.OK || !bytes.Equal(room, was) {
		t.Fatalf("changed: %v %x", e, room)
	}
	other, _ := code.Decode(b)
	clear(room)
	if !same(p, all) {
		t.Error("the extension hangs on the bytes")
	}
	clear(p.Ins[:cap(p.Ins)])
	if !same(other, all) {
		t.Error("two answers share instructions")
	}
}

// P5.1: what was asked ahead leaves no trace, an error neither.
func TestNothingIsKept(t *testing.T) {
	for range 3 {
		if b, e := code.Encode(all); e != api.OK || hex.EncodeToString(b) != allBytes {
			t.Fatalf("%x %v", b, e)
		}
		if _, e := code.Decode([]byte("CX\x00\x00\x01\x00\xff")); e != api.ErrBytes {
			t.Fatal(e)
		}
		if _, e := code.Encode(api.Program{Context: -1}); e != api.ErrArg {
			t.Fatal(e)
		}
		whole, _ := hex.DecodeString(allBytes)
		if p, e := code.Decode(whole); e != api.OK || !same(p, all) {
			t.Fatalf("%+v %v", p, e)
		}
	}
}
