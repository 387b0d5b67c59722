package wire_test

import (
	"bytes"
	"math"
	"slices"
	"testing"

	"cachet/api"
	"cachet/wire"
)

// answer is what a reader's call told, whatever its kind.
type answer struct {
	n  int64
	b  string
	is bool
	e  api.Errno
}

// calls are a reader's calls by a bound; of those that have none it is left out.
func calls() map[string]func(r *wire.Reader, bound int64) answer {
	return map[string]func(r *wire.Reader, bound int64) answer{
		"Number": func(r *wire.Reader, bound int64) answer {
			n, e := r.Number(bound)
			return answer{n: n, e: e}
		},
		"Signed": func(r *wire.Reader, bound int64) answer {
			n, e := r.Signed()
			return answer{n: n, e: e}
		},
		"Bytes": func(r *wire.Reader, bound int64) answer {
			b, e := r.Bytes(int(bound))
			return answer{b: string(b), e: e}
		},
		"Text": func(r *wire.Reader, bound int64) answer {
			b, e := r.Text(int(bound))
			return answer{b: b, e: e}
		},
		"Truth": func(r *wire.Reader, bound int64) answer {
			is, e := r.Truth()
			return answer{is: is, e: e}
		},
		"Raw": func(r *wire.Reader, bound int64) answer {
			b, e := r.Raw(int(bound))
			return answer{b: string(b), e: e}
		},
	}
}

// number reads a number's bytes by the document's words, one after the other: what is it, and how long.
func number(b []byte) (n uint64, length int, e api.Errno) {
	for length < len(b) && length < 9 && b[length] >= 128 {
		length++
	}
	switch {
	case length == 9:
		return 0, 0, api.ErrForm
	case length == len(b):
		return 0, 0, api.ErrEnds
	case length > 0 && b[length] == 0:
		return 0, 0, api.ErrForm
	}
	length++
	for i := length - 1; i >= 0; i-- {
		n = n*128 + uint64(b[i]%128)
	}
	return n, length, api.OK
}

// expected tells what a call of a new reader answers, and where it is then.
func expected(name string, b []byte, bound int64) (answer, int) {
	if bound < 0 && name != "Signed" && name != "Truth" {
		return answer{e: api.ErrArg}, 0
	}
	switch name {
	case "Truth":
		switch {
		case len(b) == 0:
			return answer{e: api.ErrEnds}, 0
		case b[0] > 1:
			return answer{e: api.ErrForm}, 0
		}
		return answer{is: b[0] == 1}, 1
	case "Raw":
		if bound > int64(len(b)) {
			return answer{e: api.ErrEnds}, 0
		}
		return answer{b: string(b[:bound])}, int(bound)
	}
	n, at, e := number(b)
	switch {
	case e != api.OK:
		return answer{e: e}, 0
	case name == "Signed":
		if n%2 == 0 {
			return answer{n: int64(n / 2)}, at
		}
		return answer{n: -int64((n + 1) / 2)}, at
	case n > uint64(bound):
		return answer{e: api.ErrLong}, 0
	case name == "Number":
		return answer{n: int64(n)}, at
	case n > uint64(len(b)-at):
		return answer{e: api.ErrEnds}, 0
	}
	return answer{b: string(b[at : at+int(n)])}, at + int(n)
}

// holds asks a new reader of the bytes for each kind of thing.
func holds(t *testing.T, b []byte, bounds ...int64) {
	t.Helper()
	for name, call := range calls() {
		for _, bound := range bounds {
			want, at := expected(name, b, bound)
			r := wire.Read(b)
			if got := call(r, bound); got != want {
				t.Fatalf("Read(%x).%s(%d): %+v, not %+v", b, name, bound, got, want)
			}
			if r.At() != at {
				t.Fatalf("Read(%x).%s(%d): at %d, not %d", b, name, bound, r.At(), at)
			}
			end := want.e
			if end == api.OK && at < len(b) {
				end = api.ErrLeft
			}
			if e := r.End(); e != end {
				t.Fatalf("Read(%x).%s(%d): End %v, not %v", b, name, bound, e, end)
			}
		}
	}
}

// over goes over all bytes of a length that have just these in them.
func over(length int, of ...byte) func(func([]byte) bool) {
	return func(yield func([]byte) bool) {
		b := bytes.Repeat(of[:1], length)
		digits := make([]int, length)
		for {
			if !yield(b) {
				return
			}
			i := 0
			for i < length && digits[i] == len(of)-1 {
				digits[i], b[i] = 0, of[0]
				i++
			}
			if i == length {
				return
			}
			digits[i]++
			b[i] = of[digits[i]]
		}
	}
}

// bounds are those that a test asks for beside small ones.
var bounds = []int64{0, 1, 2, 3, 127, 128, 300, 1 << 20, math.MaxInt64, -1, math.MinInt64}

// P2.2: every one and every two bytes.
func TestShortBytes(t *testing.T) {
	holds(t, nil, bounds...)
	for first := range 256 {
		holds(t, []byte{byte(first)}, append(bounds, int64(first)-1, int64(first))...)
		for second := range 256 {
			b := []byte{byte(first), byte(second)}
			n, _, _ := number(b)
			holds(t, b, int64(n)-1, int64(n), math.MaxInt64)
		}
	}
}

// P2.2: all bytes about what a number's byte may be, up to past a number's length.
func TestAllForms(t *testing.T) {
	for length := range 6 {
		for b := range over(length, 0, 1, 2, 127, 128, 255) {
			holds(t, b, 2, math.MaxInt64)
		}
	}
	for length := 6; length <= 11; length++ {
		for b := range over(length, 0, 128, 255) {
			holds(t, b, 200, math.MaxInt64)
		}
	}
}

// P2.2: numbers of every length, at their own bound and one below it, with something behind them and without.
func TestReadNumber(t *testing.T) {
	for _, n := range numbers() {
		for _, b := range [][]byte{uvarint(n), append(uvarint(n), 0), append(uvarint(n), 255, 255)} {
			r := wire.Read(b)
			if got, e := r.Number(n); got != n || e != api.OK || r.At() != len(uvarint(n)) {
				t.Errorf("%d: %d, %v at %d", n, got, e, r.At())
			}
			if got, e := wire.Read(b).Number(math.MaxInt64); got != n || e != api.OK {
				t.Errorf("%d: %d, %v", n, got, e)
			}
			want := api.ErrLong
			if n == 0 {
				want = api.ErrArg
			}
			if got, e := wire.Read(b).Number(n - 1); got != 0 || e != want {
				t.Errorf("%d above its bound: %d, %v", n, got, e)
			}
		}
	}
}

// P2.2: signed numbers, both ends among them.
func TestReadSigned(t *testing.T) {
	for _, n := range signed() {
		w := wire.New()
		goes(t, "Signed", w.Signed(n))
		r := wire.Read(w.All())
		if got, e := r.Signed(); got != n || e != api.OK || r.End() != api.OK {
			t.Errorf("%d: %d, %v", n, got, e)
		}
	}
}

// P2.2: rows by hand: which error it is where several apply.
func TestReadErrors(t *testing.T) {
	on := func(n int, behind ...byte) []byte { return append(bytes.Repeat([]byte{128}, n), behind...) }
	for _, row := range []struct {
		call  string
		b     []byte
		bound int64
		e     api.Errno
	}{
		{"Number", []byte{128, 0}, 9, api.ErrForm},
		{"Number", []byte{5}, 4, api.ErrLong},
		{"Bytes", []byte{5, 1}, 9, api.ErrEnds},
		{"Number", nil, 9, api.ErrEnds},
		{"Number", nil, -1, api.ErrArg},
		{"Number", on(8), 0, api.ErrEnds},
		{"Number", on(8, 0), 0, api.ErrForm},
		{"Number", on(8, 1), 0, api.ErrLong},
		{"Number", on(8, 1), 1 << 56, api.OK},
		{"Number", on(8, 1), 1<<56 - 1, api.ErrLong},
		{"Number", on(9), math.MaxInt64, api.ErrForm},
		{"Number", on(9, 1), math.MaxInt64, api.ErrForm},
		{"Number", on(9, 0), math.MaxInt64, api.ErrForm},
		{"Number", on(30), math.MaxInt64, api.ErrForm},
		{"Number", on(9), -1, api.ErrArg},
		{"Number", []byte{129, 0}, 0, api.ErrForm},
		{"Signed", on(8), 0, api.ErrEnds},
		{"Signed", on(9), 0, api.ErrForm},
		{"Signed", on(1, 0), 0, api.ErrForm},
		{"Signed", nil, 0, api.ErrEnds},
		{"Bytes", on(3), 0, api.ErrEnds},
		{"Bytes", on(3, 0), 0, api.ErrForm},
		{"Bytes", on(9, 1), 9, api.ErrForm},
		{"Bytes", []byte{3, 1}, 2, api.ErrLong},
		{"Bytes", []byte{3, 1}, 3, api.ErrEnds},
		{"Bytes", []byte{3, 1, 2}, 3, api.ErrEnds},
		{"Bytes", []byte{3, 1, 2, 3}, 2, api.ErrLong},
		{"Bytes", []byte{3}, -1, api.ErrArg},
		{"Bytes", []byte{1}, 0, api.ErrLong},
		{"Bytes", []byte{0}, 0, api.OK},
		{"Bytes", []byte{255, 255, 255, 255, 255, 255, 255, 255, 127}, math.MaxInt64, api.ErrEnds},
		{"Text", []byte{3, 1}, 2, api.ErrLong},
		{"Text", []byte{3, 1}, 3, api.ErrEnds},
		{"Text", on(2, 0), 3, api.ErrForm},
		{"Text", nil, math.MinInt64, api.ErrArg},
		{"Text", []byte{0}, 0, api.OK},
		{"Truth", nil, 0, api.ErrEnds},
		{"Truth", []byte{2}, 0, api.ErrForm},
		{"Truth", []byte{128, 1}, 0, api.ErrForm},
		{"Truth", []byte{255}, 0, api.ErrForm},
		{"Raw", nil, 0, api.OK},
		{"Raw", nil, 1, api.ErrEnds},
		{"Raw", []byte{1, 2}, 3, api.ErrEnds},
		{"Raw", []byte{1, 2}, math.MaxInt64, api.ErrEnds},
		{"Raw", []byte{1, 2}, -1, api.ErrArg},
		{"Raw", on(9), 9, api.OK},
	} {
		if got := calls()[row.call](wire.Read(row.b), row.bound); got.e != row.e {
			t.Errorf("Read(%x).%s(%d): %v, not %v", row.b, row.call, row.bound, got.e, row.e)
		}
		holds(t, row.b, row.bound)
	}
}

// P2.2: bytes and texts at their bound, short and long; what is no UTF-8 is taken as it is.
func TestReadBytesAndText(t *testing.T) {
	for _, n := range []int{0, 1, 127, 128, 16383, 16384, api.MaxText, api.MaxText + 1} {
		body := pattern(n)
		b := slices.Concat(uvarint(int64(n)), body, []byte{77})
		for _, bound := range []int{n, n + 1, math.MaxInt} {
			r := wire.Read(b)
			if got, e := r.Bytes(bound); !bytes.Equal(got, body) || e != api.OK || r.At() != len(b)-1 {
				t.Errorf("Bytes of %d: %d, %v at %d", n, len(got), e, r.At())
			}
			r = wire.Read(b)
			if got, e := r.Text(bound); got != string(body) || e != api.OK || r.At() != len(b)-1 {
				t.Errorf("Text of %d: %d, %v at %d", n, len(got), e, r.At())
			}
		}
		if n == 0 {
			continue
		}
		if got, e := wire.Read(b).Bytes(n - 1); got != nil || e != api.ErrLong {
			t.Errorf("Bytes of %d above the bound: %v", n, e)
		}
		if got, e := wire.Read(b[:len(b)-2]).Text(n); got != "" || e != api.ErrEnds {
			t.Errorf("Text of %d that ends ahead: %v", n, e)
		}
	}
}

// P2.2: beside an error there is no list.
func TestNothingBesideAnError(t *testing.T) {
	r := wire.Read([]byte{4, 1, 2})
	for range 2 {
		if b, e := r.Bytes(9); b != nil || e != api.ErrEnds {
			t.Error(b, e)
		}
		if b, e := r.Raw(1); b != nil || e != api.ErrEnds {
			t.Error(b, e)
		}
	}
}

// flawed are readers, each behind its first error, with something taken ahead of it.
func flawed() map[api.Errno]*wire.Reader {
	readers := map[api.Errno]*wire.Reader{}
	for _, first := range []func(r *wire.Reader) api.Errno{
		func(r *wire.Reader) api.Errno { _, e := r.Number(-1); return e },
		func(r *wire.Reader) api.Errno { _, e := r.Number(4); return e },
		func(r *wire.Reader) api.Errno { _, e := r.Truth(); return e },
		func(r *wire.Reader) api.Errno { _, e := r.Raw(100); return e },
	} {
		r := wire.Read([]byte{1, 5, 1, 0, 0, 0, 0, 0})
		r.Truth()
		readers[first(r)] = r
	}
	return readers
}

// P2.2, P2.3: the first error is a flaw that stays: each call answers it, whatever it is asked, and the place stays.
func TestFlawStays(t *testing.T) {
	readers := flawed()
	for _, flaw := range []api.Errno{api.ErrArg, api.ErrLong, api.ErrForm, api.ErrEnds} {
		r := readers[flaw]
		for range 2 {
			for name, call := range calls() {
				for _, bound := range []int64{0, 1, 4, 5, 100, math.MaxInt64, -1, math.MinInt64} {
					if got := call(r, bound); got != (answer{e: flaw}) {
						t.Errorf("%s(%d): %+v, not %v", name, bound, got, flaw)
					}
				}
			}
			if e := r.End(); e != flaw {
				t.Errorf("End: %v, not %v", e, flaw)
			}
			if r.At() != 1 {
				t.Errorf("%v: at %d", flaw, r.At())
			}
		}
	}
}

// P2.3: a flaw is told by End even where no bytes are left; bytes that are left are no flaw.
func TestEnd(t *testing.T) {
	r := wire.Read([]byte{1, 2})
	for _, want := range []int64{1, 2} {
		for range 3 {
			if e := r.End(); e != api.ErrLeft {
				t.Fatalf("%d to come: %v", want, e)
			}
		}
		if n, e := r.Number(9); n != want || e != api.OK {
			t.Fatalf("behind End: %d, %v", n, e)
		}
	}
	for range 3 {
		if e := r.End(); e != api.OK || r.At() != 2 {
			t.Fatalf("%v at %d", e, r.At())
		}
	}
	if _, e := r.Truth(); e != api.ErrEnds {
		t.Error(e)
	}
	if e := r.End(); e != api.ErrEnds || r.At() != 2 {
		t.Errorf("%v at %d", e, r.At())
	}
	for _, b := range [][]byte{nil, {}} {
		if r := wire.Read(b); r.End() != api.OK || r.At() != 0 {
			t.Errorf("no bytes: %v at %d", r.End(), r.At())
		}
	}
}

// P2.3: the place is behind what was taken, call by call.
func TestAt(t *testing.T) {
	r := wire.Read([]byte{0xac, 2, 3, 2, 'h', 'i', 1, 0, 1, 200, 9, 8, 7})
	for i, step := range []struct {
		call  string
		bound int64
		want  answer
		at    int
	}{
		{"Number", 300, answer{n: 300}, 2},
		{"Signed", 0, answer{n: -2}, 3},
		{"Text", 2, answer{b: "hi"}, 6},
		{"Truth", 0, answer{is: true}, 7},
		{"Truth", 0, answer{}, 8},
		{"Bytes", 1, answer{b: "\xc8"}, 10},
		{"Raw", 0, answer{}, 10},
		{"Raw", 3, answer{b: "\x09\x08\x07"}, 13},
		{"Raw", 0, answer{}, 13},
	} {
		if got := calls()[step.call](r, step.bound); got != step.want || r.At() != step.at {
			t.Errorf("%d: %+v at %d", i, got, r.At())
		}
	}
	if e := r.End(); e != api.OK {
		t.Error(e)
	}
}

// P2.2: a reader has the bytes as they were, and its answers are apart from them and from each other.
func TestReaderKeepsNothing(t *testing.T) {
	b := append(make([]byte, 0, 20), 2, 11, 12, 21, 22, 2, 31, 32, 4)
	before := slices.Clone(b[:20])
	r, other := wire.Read(b), wire.Read(b)
	first, _ := r.Bytes(9)
	if !bytes.Equal(b[:20], before) {
		t.Error("what was handed in is another one")
	}
	clear(b)
	_ = append(first, 99, 99, 99)
	clear(first)
	second, e := r.Raw(2)
	if !bytes.Equal(second, []byte{21, 22}) || e != api.OK {
		t.Error(second, e)
	}
	_ = append(second, 99, 99, 99)
	clear(second)
	if s, e := r.Text(9); s != "\x1f\x20" || e != api.OK {
		t.Error(s, e)
	}
	if n, e := r.Number(9); n != 4 || e != api.OK || r.End() != api.OK {
		t.Error(n, e, r.End())
	}
	if all, e := other.Raw(9); !bytes.Equal(all, before[:9]) || e != api.OK {
		t.Error(all, e)
	}
}

// P2.2, P2.3: a reader that is not there, and one that no call made.
func TestNoReader(t *testing.T) {
	for name, r := range map[string]*wire.Reader{"nil": nil, "zero": {}, "new": new(wire.Reader)} {
		for kind, call := range calls() {
			for _, bound := range []int64{0, 1, -1} {
				if got := call(r, bound); got != (answer{e: api.ErrNil}) {
					t.Errorf("%s: %s(%d): %+v", name, kind, bound, got)
				}
			}
		}
		if r.At() != 0 || r.End() != api.ErrNil {
			t.Errorf("%s: End %v at %d", name, r.End(), r.At())
		}
	}
}
