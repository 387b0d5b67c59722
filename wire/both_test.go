package wire_test

import (
	"bytes"
	"math"
	"math/rand"
	"testing"

	"cachet/api"
	"cachet/wire"
)

// things are some of each kind; a thing writes itself, and reads itself again.
func things() map[string]func(w *wire.Writer, dice *rand.Rand) func(*wire.Reader) bool {
	body := func(dice *rand.Rand) []byte { return pattern([]int{0, 1, 2, 127, 128, 200}[dice.Intn(6)]) }
	return map[string]func(*wire.Writer, *rand.Rand) func(*wire.Reader) bool{
		"Number": func(w *wire.Writer, dice *rand.Rand) func(*wire.Reader) bool {
			want := dice.Int63() >> dice.Intn(64)
			e := w.Number(want)
			return func(r *wire.Reader) bool { n, f := r.Number(want); return n == want && e == f }
		},
		"Signed": func(w *wire.Writer, dice *rand.Rand) func(*wire.Reader) bool {
			want := (dice.Int63() - dice.Int63()) / 2 >> dice.Intn(63)
			e := w.Signed(want)
			return func(r *wire.Reader) bool { n, f := r.Signed(); return n == want && e == f }
		},
		"Bytes": func(w *wire.Writer, dice *rand.Rand) func(*wire.Reader) bool {
			want := body(dice)
			e := w.Bytes(want)
			return func(r *wire.Reader) bool { b, f := r.Bytes(len(want)); return bytes.Equal(b, want) && e == f }
		},
		"Text": func(w *wire.Writer, dice *rand.Rand) func(*wire.Reader) bool {
			want := string(body(dice))
			e := w.Text(want)
			return func(r *wire.Reader) bool { s, f := r.Text(len(want)); return s == want && e == f }
		},
		"Truth": func(w *wire.Writer, dice *rand.Rand) func(*wire.Reader) bool {
			want := dice.Intn(2) == 0
			e := w.Truth(want)
			return func(r *wire.Reader) bool { is, f := r.Truth(); return is == want && e == f }
		},
		"Raw": func(w *wire.Writer, dice *rand.Rand) func(*wire.Reader) bool {
			want := body(dice)
			e := w.Raw(want)
			return func(r *wire.Reader) bool { b, f := r.Raw(len(want)); return bytes.Equal(b, want) && e == f }
		},
	}
}

// P2.4: what was written is read by the same calls, in the same order, with End OK.
func TestWrittenIsRead(t *testing.T) {
	names := []string{"Number", "Signed", "Bytes", "Text", "Truth", "Raw"}
	for seed := range int64(400) {
		dice := rand.New(rand.NewSource(seed))
		w := wire.New()
		var order []string
		var reads []func(*wire.Reader) bool
		for range dice.Intn(30) {
			name := names[dice.Intn(len(names))]
			order = append(order, name)
			reads = append(reads, things()[name](w, dice))
		}
		r := wire.Read(w.All())
		for i, read := range reads {
			if !read(r) {
				t.Fatalf("seed %d: call %d of %v", seed, i, order)
			}
		}
		if e := r.End(); e != api.OK || r.At() != len(w.All()) {
			t.Fatalf("seed %d: End %v at %d", seed, e, r.At())
		}
	}
}

// again reads one thing, and writes it.
func again() []func(r *wire.Reader, w *wire.Writer) {
	return []func(r *wire.Reader, w *wire.Writer){
		func(r *wire.Reader, w *wire.Writer) { n, _ := r.Number(math.MaxInt64); w.Number(n) },
		func(r *wire.Reader, w *wire.Writer) { n, _ := r.Signed(); w.Signed(n) },
		func(r *wire.Reader, w *wire.Writer) { b, _ := r.Bytes(math.MaxInt); w.Bytes(b) },
		func(r *wire.Reader, w *wire.Writer) { s, _ := r.Text(math.MaxInt); w.Text(s) },
		func(r *wire.Reader, w *wire.Writer) { is, _ := r.Truth(); w.Truth(is) },
		func(r *wire.Reader, w *wire.Writer) { b, _ := r.Raw(2); w.Raw(b) },
	}
}

// P2.4: whatever the bytes, what is read up to an End that is OK is written as the same bytes.
func TestReadIsWritten(t *testing.T) {
	whole := 0
	kinds := again()
	for length := range 5 {
		for b := range over(length, 0, 1, 2, 127, 128, 255) {
			for many := range 4 {
				for order := range over(many, 0, 1, 2, 3, 4, 5) {
					r, w := wire.Read(b), wire.New()
					for _, kind := range order {
						kinds[kind](r, w)
					}
					if r.End() == api.OK {
						whole++
						has(t, w, b)
					}
				}
			}
		}
	}
	if whole < 10000 {
		t.Errorf("only %d orders of calls came to an end", whole)
	}
}

// P2.4: the longest numbers, of which each has one form only.
func TestLongNumbersAreWritten(t *testing.T) {
	whole := 0
	for length := 6; length <= 10; length++ {
		for b := range over(length, 0, 1, 128, 255) {
			for _, kind := range again()[:2] {
				r, w := wire.Read(b), wire.New()
				kind(r, w)
				if r.End() == api.OK {
					whole++
					has(t, w, b)
				}
			}
		}
	}
	if whole == 0 {
		t.Error("no number came to an end")
	}
}
