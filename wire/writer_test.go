package wire_test

import (
	"bytes"
	"encoding/binary"
	"math"
	"slices"
	"strings"
	"testing"

	"cachet/api"
	"cachet/wire"
)

const (
	least = -1 << 62
	great = 1<<62 - 1
)

// numbers are all where one byte more is needed, what is beside them, and both ends.
func numbers() []int64 {
	l := []int64{0, 1, 2, 63, 64, 65, 300, math.MaxInt64 - 1, math.MaxInt64}
	for bits := range 63 {
		l = append(l, 1<<bits-1, 1<<bits, 1<<bits+1)
	}
	return l
}

// signed are as many on both sides of 0, and both ends.
func signed() []int64 {
	l := []int64{0, -2, least, least + 1, great - 1, great}
	for bits := range 62 {
		l = append(l, 1<<bits-1, 1<<bits, 1-1<<bits, -1<<bits, -1-1<<bits)
	}
	return l
}

// uvarint makes a number's bytes by the library, whose form is the same.
func uvarint(n int64) []byte { return binary.AppendUvarint(nil, uint64(n)) }

// full makes a writer that has room for so many bytes more.
func full(t *testing.T, room int) *wire.Writer {
	t.Helper()
	w := wire.New()
	goes(t, "Raw", w.Raw(pattern(api.MaxText-room)))
	return w
}

// pattern makes so many bytes, of all kinds.
func pattern(n int) []byte {
	b := make([]byte, n)
	for i := range b {
		b[i] = byte(i*i + i>>8)
	}
	return b
}

func goes(t *testing.T, name string, e api.Errno) {
	t.Helper()
	if e != api.OK {
		t.Fatalf("%s: %v", name, e)
	}
}

// has asks whether a writer has just these bytes.
func has(t *testing.T, w *wire.Writer, b []byte) {
	t.Helper()
	if all := w.All(); !bytes.Equal(all, b) {
		t.Fatalf("%d bytes %x, not %d %x", len(all), all[:min(len(all), 40)], len(b), b[:min(len(b), 40)])
	}
}

// P2.1: a new writer has no bytes, and none in common with another one.
func TestNewHasNoBytes(t *testing.T) {
	w, other := wire.New(), wire.New()
	has(t, w, nil)
	goes(t, "Raw", w.Raw([]byte("abc")))
	has(t, other, nil)
	goes(t, "Raw", other.Raw([]byte("xy")))
	has(t, w, []byte("abc"))
}

// P2.1: the rows of the chapter, and some more by hand.
func TestRows(t *testing.T) {
	w := wire.New()
	var all []byte
	for _, row := range []struct {
		e api.Errno
		b []byte
	}{
		{w.Number(300), []byte{0xac, 2}},
		{w.Signed(-2), []byte{3}},
		{w.Text("hi"), []byte{2, 'h', 'i'}},
		{w.Truth(true), []byte{1}},
		{w.Truth(false), []byte{0}},
		{w.Number(0), []byte{0}},
		{w.Number(127), []byte{127}},
		{w.Number(128), []byte{128, 1}},
		{w.Number(math.MaxInt64), []byte{255, 255, 255, 255, 255, 255, 255, 255, 127}},
		{w.Signed(0), []byte{0}},
		{w.Signed(-1), []byte{1}},
		{w.Signed(1), []byte{2}},
		{w.Signed(-64), []byte{127}},
		{w.Signed(64), []byte{128, 1}},
		{w.Signed(great), []byte{254, 255, 255, 255, 255, 255, 255, 255, 127}},
		{w.Signed(least), []byte{255, 255, 255, 255, 255, 255, 255, 255, 127}},
		{w.Bytes([]byte{7, 200}), []byte{2, 7, 200}},
		{w.Bytes(nil), []byte{0}},
		{w.Text(""), []byte{0}},
		{w.Raw([]byte{9, 8}, nil, []byte{128}), []byte{9, 8, 128}},
		{w.Raw(), nil},
	} {
		goes(t, "a row", row.e)
		all = append(all, row.b...)
	}
	has(t, w, all)
}

// P2.1: numbers of every length.
func TestNumber(t *testing.T) {
	w := wire.New()
	var b []byte
	for _, n := range numbers() {
		goes(t, "Number", w.Number(n))
		b = append(b, uvarint(n)...)
		has(t, w, b)
	}
}

// P2.1: signed numbers of every length.
func TestSigned(t *testing.T) {
	w := wire.New()
	var b []byte
	for _, n := range signed() {
		goes(t, "Signed", w.Signed(n))
		b = binary.AppendVarint(b, n)
		has(t, w, b)
	}
}

// P2.1: numbers that may not be are refused, and nothing is laid, however full the writer.
func TestNumbersThatMayNotBe(t *testing.T) {
	for _, w := range []*wire.Writer{wire.New(), full(t, 100), full(t, 1), full(t, 0)} {
		b := w.All()
		for _, n := range []int64{-1, -2, -128, least, math.MinInt64 + 1, math.MinInt64} {
			if e := w.Number(n); e != api.ErrArg {
				t.Errorf("Number(%d): %v", n, e)
			}
		}
		for _, n := range []int64{great + 1, great + 2, math.MaxInt64, least - 1, least - 2, math.MinInt64 + 1, math.MinInt64} {
			if e := w.Signed(n); e != api.ErrArg {
				t.Errorf("Signed(%d): %v", n, e)
			}
		}
		has(t, w, b)
	}
}

// P2.1: bytes and texts have their length ahead, of one byte or of more; they need be no UTF-8.
func TestBytesAndText(t *testing.T) {
	for _, n := range []int{0, 1, 2, 126, 127, 128, 129, 1000, 16383, 16384, 16385} {
		b := pattern(n)
		want := append(uvarint(int64(n)), b...)
		w := wire.New()
		goes(t, "Bytes", w.Bytes(b))
		has(t, w, want)
		goes(t, "Text", w.Text(string(b)))
		has(t, w, slices.Concat(want, want))
	}
	w := wire.New()
	goes(t, "Text", w.Text("\xff\xc3\x28é"))
	has(t, w, []byte{5, 0xff, 0xc3, 0x28, 0xc3, 0xa9})
}

// P2.1: raw parts are laid one behind the other, without their lengths.
func TestRaw(t *testing.T) {
	w := wire.New()
	goes(t, "none", w.Raw())
	goes(t, "nil", w.Raw(nil))
	goes(t, "empty", w.Raw([]byte{}, nil, []byte{}))
	has(t, w, nil)
	goes(t, "one", w.Raw([]byte("a")))
	goes(t, "more", w.Raw([]byte("bc"), nil, []byte("d"), []byte{}, []byte("efg")))
	goes(t, "a list", w.Raw([][]byte{[]byte("h"), []byte("i")}...))
	has(t, w, []byte("abcdefghi"))
	b := pattern(1000)
	w = wire.New()
	goes(t, "many", w.Raw(slices.Collect(slices.Chunk(b, 7))...))
	has(t, w, b)
}

// laying are calls of each kind that lay so many bytes, from 2 on.
func laying(n int) map[string]func(*wire.Writer) api.Errno {
	calls := map[string]func(*wire.Writer) api.Errno{
		"Raw":       func(w *wire.Writer) api.Errno { return w.Raw(pattern(n)) },
		"Raw parts": func(w *wire.Writer) api.Errno { return w.Raw(pattern(1), pattern(n-2), nil, pattern(1)) },
	}
	body := n - 1
	for len(uvarint(int64(body)))+body > n {
		body--
	}
	if len(uvarint(int64(body)))+body == n {
		calls["Bytes"] = func(w *wire.Writer) api.Errno { return w.Bytes(pattern(body)) }
		calls["Text"] = func(w *wire.Writer) api.Errno { return w.Text(strings.Repeat("x", body)) }
	}
	if n <= 9 {
		calls["Number"] = func(w *wire.Writer) api.Errno { return w.Number(1 << (7 * (n - 1))) }
		calls["Signed"] = func(w *wire.Writer) api.Errno { return w.Signed(1 << (7*(n-1) - 1)) }
		calls["Signed below 0"] = func(w *wire.Writer) api.Errno { return w.Signed(-1 - 1<<(7*(n-1)-1)) }
	}
	return calls
}

// P2.1: at their bound a writer's bytes go; one past it nothing is laid, and what is shorter still goes.
func TestBound(t *testing.T) {
	for _, n := range []int{2, 3, 8, 9, 10, 100, 127, 128, 130, 131, 16384, 70000, api.MaxText} {
		for name, call := range laying(n) {
			w := full(t, n)
			goes(t, name, call(w))
			if got := len(w.All()); got != api.MaxText {
				t.Fatalf("%s of %d: %d bytes", name, n, got)
			}
			if n == api.MaxText {
				goes(t, name, w.Raw())
				continue
			}
			for _, room := range []int{n - 1, 1, 0} {
				w = full(t, room)
				b := w.All()
				if e := call(w); e != api.ErrLong {
					t.Fatalf("%s of %d in a room of %d: %v", name, n, room, e)
				}
				has(t, w, b)
				goes(t, name, w.Raw(pattern(room)))
				has(t, w, slices.Concat(b, pattern(room)))
			}
		}
	}
}

// P2.1: what is one byte long goes into the last byte, and not behind it.
func TestLastByte(t *testing.T) {
	for name, call := range map[string]func(*wire.Writer) api.Errno{
		"Number":      func(w *wire.Writer) api.Errno { return w.Number(127) },
		"Number 0":    func(w *wire.Writer) api.Errno { return w.Number(0) },
		"Signed":      func(w *wire.Writer) api.Errno { return w.Signed(-64) },
		"no bytes":    func(w *wire.Writer) api.Errno { return w.Bytes(nil) },
		"no text":     func(w *wire.Writer) api.Errno { return w.Text("") },
		"Truth":       func(w *wire.Writer) api.Errno { return w.Truth(true) },
		"Truth false": func(w *wire.Writer) api.Errno { return w.Truth(false) },
		"Raw":         func(w *wire.Writer) api.Errno { return w.Raw([]byte{5}) },
	} {
		w := full(t, 1)
		goes(t, name, call(w))
		b := w.All()
		if len(b) != api.MaxText {
			t.Errorf("%s: %d bytes", name, len(b))
		}
		if e := call(w); e != api.ErrLong {
			t.Errorf("%s: %v", name, e)
		}
		has(t, w, b)
		goes(t, name, w.Raw())
		goes(t, name, w.Raw(nil, []byte{}))
		has(t, w, b)
	}
}

// P2.1: what alone is past the bound.
func TestLongAlone(t *testing.T) {
	long := pattern(api.MaxText + 1)
	most := api.MaxText - 3 // with its length ahead just at the bound
	w := wire.New()
	for name, e := range map[string]api.Errno{
		"Raw":       w.Raw(long),
		"Raw parts": w.Raw(long[:api.MaxText], long[:1]),
		"Raw twice": w.Raw(long[:api.MaxText], long[:api.MaxText]),
		"Bytes":     w.Bytes(long),
		"Bytes at":  w.Bytes(long[:most+1]),
		"Text":      w.Text(string(long)),
		"Text at":   w.Text(string(long[:most+1])),
	} {
		if e != api.ErrLong {
			t.Errorf("%s: %v", name, e)
		}
	}
	has(t, w, nil)
	goes(t, "Bytes", w.Bytes(long[:most]))
	if n := len(w.All()); n != api.MaxText {
		t.Error(n)
	}
}

// P2.1: All is new memory each time, and changes nothing.
func TestAllIsApart(t *testing.T) {
	w := wire.New()
	goes(t, "Text", w.Text("abc"))
	first, second := w.All(), w.All()
	first[0], first[3] = 99, 99
	_ = append(first[:1], 77, 77, 77)
	if !bytes.Equal(second, []byte("\x03abc")) {
		t.Error(second)
	}
	has(t, w, []byte("\x03abc"))
	_ = append(second, 55, 55)
	goes(t, "Number", w.Number(4))
	_ = append(w.All(), 1, 2, 3)
	has(t, w, []byte("\x03abc\x04"))
}

// P2.1: what is handed in is neither changed nor kept.
func TestWriterKeepsNothing(t *testing.T) {
	room := pattern(40)
	before := slices.Clone(room)
	w := wire.New()
	list := [][]byte{room[:5], room[5:9], nil, room[:3]}
	goes(t, "Bytes", w.Bytes(room[:10]))
	goes(t, "Raw", w.Raw(list[:2]...))
	goes(t, "Raw", w.Raw(room[:4]))
	goes(t, "Number", w.Number(1))
	if !bytes.Equal(room, before) || list[2] != nil || !bytes.Equal(list[3], before[:3]) {
		t.Error("what was handed in is another one")
	}
	want := slices.Concat([]byte{10}, before[:10], before[:9], before[:4], []byte{1})
	clear(room)
	clear(list)
	has(t, w, want)
}

// P2.1: a writer that is not there, and one that no call made.
func TestNoWriter(t *testing.T) {
	for name, w := range map[string]*wire.Writer{"nil": nil, "zero": {}, "new": new(wire.Writer)} {
		for call, e := range map[string]api.Errno{
			"Number": w.Number(1), "Number below 0": w.Number(-1),
			"Signed": w.Signed(1), "Signed beyond": w.Signed(great + 1),
			"Bytes": w.Bytes([]byte("a")), "no Bytes": w.Bytes(nil), "long Bytes": w.Bytes(pattern(api.MaxText + 1)),
			"Text": w.Text("a"), "no Text": w.Text(""), "Truth": w.Truth(true), "Truth false": w.Truth(false),
			"Raw": w.Raw([]byte("a")), "no Raw": w.Raw(), "nil Raw": w.Raw(nil), "long Raw": w.Raw(pattern(api.MaxText + 1)),
		} {
			if e != api.ErrNil {
				t.Errorf("%s: %s: %v", name, call, e)
			}
		}
		if b := w.All(); b != nil {
			t.Errorf("%s: All %v", name, b)
		}
	}
}
