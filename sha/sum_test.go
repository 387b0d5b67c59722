package sha_test

import (
	"bytes"
	"crypto/sha256"
	"slices"
	"strings"
	"testing"

	"cachet/api"
	"cachet/sha"
)

// pattern makes n bytes of which no two blocks are alike.
func pattern(n int) []byte {
	b := make([]byte, n)
	word := uint32(n)*2654435761 + 1
	for i := range b {
		word = word*1664525 + 1013904223
		b[i] = byte(word >> 24)
	}
	return b
}

// digestOf is the library's own digest, to hold ours against.
func digestOf(b []byte) api.Digest { return sha256.Sum256(b) }

// P1.1: digests that are known to all.
func TestSumOfKnownBytes(t *testing.T) {
	rows := []struct{ text, want string }{
		{"", "e3b0c44298fc1c149afbf4c8996fb92427ae41e4649b934ca495991b7852b855"},
		{"abc", "ba7816bf8f01cfea414140de5dae2223b00361a396177a9cb410ff61f20015ad"},
		{"abcdbcdecdefdefgefghfghighijhijkijkljklmklmnlmnomnopnopq", "248d6a61d20638b8e5c026930c3e6039a33ce45964ff2167f6ecedd419db06c1"},
		{"abcdefghbcdefghicdefghijdefghijkefghijklfghijklmghijklmnhijklmnoijklmnopjklmnopqklmnopqrlmnopqrsmnopqrstnopqrstu", "cf5b16a778af8380036ce59e7b0492370b249b11e8f07a51afac45037afee9d1"},
		{strings.Repeat("a", 1000000), "cdc76e5c9914fb9281a1c7e284d73e67f1809a48a497200e046d39ccc7112cd0"},
	}
	for _, row := range rows {
		if got := sha.Text(sha.Sum([]byte(row.text))); got != row.want {
			t.Errorf("Sum of %d bytes: %s, not %s", len(row.text), got, row.want)
		}
	}
}

// P1.1: all lengths up to some blocks, so those too where the tail takes a block more (56 to 63, 64).
func TestSumOfAllLengths(t *testing.T) {
	for n := range 5*64 + 2 {
		for _, b := range [][]byte{pattern(n), make([]byte, n), bytes.Repeat([]byte{255}, n)} {
			if got := sha.Sum(b); got != digestOf(b) {
				t.Errorf("Sum of %d bytes: %s", n, sha.Text(got))
			}
		}
	}
}

// P1.1: long ones, whose number of bits takes several bytes of the tail.
func TestSumOfLongBytes(t *testing.T) {
	for _, n := range []int{8191, 8192, 65535, 65536, 1<<20 + 55, 1<<20 + 56, 1<<21 + 1} {
		if b := pattern(n); sha.Sum(b) != digestOf(b) {
			t.Errorf("Sum of %d bytes is another one", n)
		}
	}
}

// P1.1: one bit more, one less is another digest; a nought behind too.
func TestSumTellsBytesApart(t *testing.T) {
	b := pattern(70)
	whole := sha.Sum(b)
	for i := range b {
		for bit := range 8 {
			other := slices.Clone(b)
			other[i] ^= 1 << bit
			if sha.Sum(other) == whole {
				t.Errorf("byte %d, bit %d: the same digest", i, bit)
			}
		}
	}
	if sha.Sum(append(slices.Clone(b), 0)) == whole {
		t.Error("a nought behind: the same digest")
	}
}

// P1.1: parts stand one behind the other.
func TestOfParts(t *testing.T) {
	none := digestOf(nil)
	if sha.Of() != none || sha.Of(nil) != none || sha.Of(nil, []byte{}, nil) != none {
		t.Error("parts without bytes are not as no bytes")
	}
	if sha.Of([]byte("a"), nil, []byte("b"), []byte{}, []byte("c")) != digestOf([]byte("abc")) {
		t.Error("parts are not one behind the other")
	}
	if sha.Of([]byte("c"), []byte("ab")) != digestOf([]byte("cab")) {
		t.Error("parts are not in their order")
	}
	list := [][]byte{pattern(64), pattern(63), pattern(1), pattern(130)}
	if sha.Of(list...) != digestOf(slices.Concat(list...)) {
		t.Error("parts about a block's end")
	}
}

// P1.1, and what holds everywhere: nil is as empty.
func TestNilIsEmpty(t *testing.T) {
	if sha.Sum(nil) != sha.Sum([]byte{}) || sha.Sum(nil) != digestOf(nil) {
		t.Error("nil is not as no bytes")
	}
}

// What holds everywhere: what is handed in stays as it is, spare room included, and is not kept.
func TestHandedInStays(t *testing.T) {
	for _, n := range []int{0, 1, 55, 56, 63, 64, 65, 200} {
		whole := pattern(n + 80)
		was := slices.Clone(whole)
		part := whole[:n]
		sha.Sum(part)
		sha.Of(part, part)
		h := sha.New()
		h.Write(part)
		h.Sum()
		if !bytes.Equal(whole, was) {
			t.Errorf("%d bytes: they were changed", n)
		}
		clear(whole)
		if h.Sum() != digestOf(was[:n]) {
			t.Errorf("%d bytes: they were kept", n)
		}
	}
}
