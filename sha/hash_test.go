package sha_test

import (
	"slices"
	"testing"

	"cachet/api"
	"cachet/sha"
)

// write writes parts, each of which must go.
func write(t *testing.T, h *sha.Hash, parts ...[]byte) {
	t.Helper()
	for _, part := range parts {
		if e := h.Write(part); e != api.OK {
			t.Fatalf("Write of %d bytes: %v", len(part), e)
		}
	}
}

// holds asks whether a hash has just these bytes.
func holds(t *testing.T, h *sha.Hash, b []byte) {
	t.Helper()
	if h.Sum() != digestOf(b) {
		t.Errorf("Sum of %d bytes: %s", len(b), sha.Text(h.Sum()))
	}
	if h.Len() != int64(len(b)) {
		t.Errorf("Len of %d bytes: %d", len(b), h.Len())
	}
}

// P1.3: a new hash has no bytes; writing none changes nothing.
func TestNewHasNoBytes(t *testing.T) {
	h := sha.New()
	holds(t, h, nil)
	write(t, h, nil, []byte{})
	holds(t, h, nil)
	other := sha.New()
	write(t, h, []byte("abc"))
	holds(t, other, nil)
}

// P1.3: more may be written behind a Sum, at every length; Sum again is the same.
func TestWriteBehindSum(t *testing.T) {
	b := pattern(300)
	h := sha.New()
	for n := range b {
		holds(t, h, b[:n])
		holds(t, h, b[:n])
		write(t, h, b[n:n+1])
	}
	holds(t, h, b)
}

// P1.3: Sum is new memory each time.
func TestSumIsApart(t *testing.T) {
	h := sha.New()
	d := h.Sum()
	d[0]++
	holds(t, h, nil)
}

// P1.3: Len counts every byte, at block's ends too.
func TestLen(t *testing.T) {
	h := sha.New()
	var all int64
	for _, n := range []int{0, 1, 62, 1, 64, 0, 65, 127, 128, 1 << 20, 3} {
		write(t, h, pattern(n))
		all += int64(n)
		if h.Len() != all {
			t.Errorf("%d, not %d", h.Len(), all)
		}
	}
}

// P1.3: a copy has the same, and both go on apart, wherever it was made.
func TestCopyGoesOnApart(t *testing.T) {
	b := pattern(200)
	for n := range 131 {
		h := sha.New()
		write(t, h, b[:n])
		other := h.Copy()
		if other == nil || other == h {
			t.Fatalf("%d bytes: no other hash", n)
		}
		holds(t, other, b[:n])
		write(t, h, b[n:n+70])
		holds(t, other, b[:n])
		holds(t, h, b[:n+70])
		write(t, other, []byte("another"))
		holds(t, other, slices.Concat(b[:n], []byte("another")))
		holds(t, h, b[:n+70])
		again := other.Copy()
		write(t, other, b[:64])
		holds(t, again, slices.Concat(b[:n], []byte("another")))
	}
}

// P1.3: a hash that is not there, and one that no call made.
func TestNoHash(t *testing.T) {
	var none *sha.Hash
	for name, h := range map[string]*sha.Hash{"nil": none, "zero": {}, "new": new(sha.Hash), "of none": none.Copy()} {
		for _, b := range [][]byte{nil, {}, []byte("abc"), pattern(64), pattern(200)} {
			if e := h.Write(b); e != api.ErrNil {
				t.Errorf("%s: Write of %d bytes: %v", name, len(b), e)
			}
			if d := h.Sum(); d != (api.Digest{}) {
				t.Errorf("%s: Sum %v", name, d)
			}
			if n := h.Len(); n != 0 {
				t.Errorf("%s: Len %d", name, n)
			}
			if other := h.Copy(); other != nil {
				t.Errorf("%s: Copy is there", name)
			}
		}
	}
}

// P1.4: bytes cut in three, at all places about blocks' ends, as parts and as Writes.
func TestCutsDoNotMatter(t *testing.T) {
	for _, n := range []int{0, 1, 55, 56, 63, 64, 65, 119, 120, 127, 128, 129, 150} {
		b := pattern(n)
		for first := range n + 1 {
			for second := first; second <= n; second++ {
				parts := [][]byte{b[:first], b[first:second], b[second:]}
				if sha.Of(parts...) != digestOf(b) {
					t.Fatalf("Of %d bytes, cut at %d and %d", n, first, second)
				}
				h := sha.New()
				write(t, h, parts...)
				holds(t, h, b)
			}
		}
	}
}

// P1.4: pieces of one length each, from single bytes to some blocks.
func TestEvenPiecesDoNotMatter(t *testing.T) {
	b := pattern(1000)
	for length := 1; length <= 200; length++ {
		parts := slices.Collect(slices.Chunk(b, length))
		if sha.Of(parts...) != digestOf(b) {
			t.Errorf("Of parts of %d bytes", length)
		}
		h := sha.New()
		write(t, h, parts...)
		holds(t, h, b)
	}
}
