package lamport_test

import (
	"crypto/sha256"
	"encoding/hex"
	"math"
	"testing"

	"cachet/api"
)

// seedOf makes a seed of bytes that are all unlike.
func seedOf(first byte) api.Digest {
	var seed api.Digest
	for i := range seed {
		seed[i] = first + byte(i)
	}
	return seed
}

// someLeaves are both ends, and such as have unlike bytes.
func someLeaves() []int { return []int{0, 1, 2, 255, 256, 257, 258, 513, 0x1234, 32768, 65534, 65535} }

// noLeaves are one beyond on either side, and such as would be a leaf if they were cut to two or four bytes.
func noLeaves() []int {
	return []int{-1, 65536, -2, -65535, -65536, 65537, 1 << 17, 1 << 31, 1 << 32, 1<<32 + 3, 1 << 48, math.MinInt, math.MinInt + 3, math.MaxInt}
}

// messages are none, short ones, and such as are longer than a block.
func messages() [][]byte {
	l := [][]byte{nil, {}, {0}, []byte("hi"), []byte("abc"), []byte("\xff\xfe"), make([]byte, 200)}
	for n := range 20 {
		l = append(l, pattern(n*13+1))
	}
	return l
}

// pattern makes so many bytes, of all kinds.
func pattern(n int) []byte {
	b := make([]byte, n)
	for i := range b {
		b[i] = byte(i*i + 7*i + n)
	}
	return b
}

// digestOf is the library's own digest, to hold ours against.
func digestOf(b []byte) api.Digest { return sha256.Sum256(b) }

// secretOf is the document's secret: the digest of 36 bytes.
func secretOf(seed api.Digest, leaf, place, bit int) api.Digest {
	var b [36]byte
	copy(b[:], seed[:])
	b[32], b[33], b[34], b[35] = byte(leaf/256), byte(leaf%256), byte(place), byte(bit)
	return digestOf(b[:])
}

// halfOf is a secret's digest.
func halfOf(secret api.Digest) api.Digest { return digestOf(secret[:]) }

// keyOf is the document's key: the digest of 128 halves.
func keyOf(seed api.Digest, leaf int) api.Digest {
	var all []byte
	for place := range 64 {
		zero, one := halfOf(secretOf(seed, leaf, place, 0)), halfOf(secretOf(seed, leaf, place, 1))
		all = append(append(all, zero[:]...), one[:]...)
	}
	return digestOf(all)
}

// bitsOf are a message's bits as a text's digits tell them.
func bitsOf(message []byte) [64]int {
	digest := digestOf(message)
	var bits [64]int
	for i, x := range digest[:8] {
		for j, weight := range []byte{128, 64, 32, 16, 8, 4, 2, 1} {
			bits[8*i+j] = int(x / weight % 2)
		}
	}
	return bits
}

// sigOf is the document's signature.
func sigOf(seed api.Digest, leaf int, message []byte) api.Sig {
	var s api.Sig
	for place, bit := range bitsOf(message) {
		s.Told[place] = secretOf(seed, leaf, place, bit)
		s.Half[place] = halfOf(secretOf(seed, leaf, place, 1-bit))
	}
	return s
}

// fitted is the key that a signature fits for a message.
func fitted(message []byte, s api.Sig) api.Digest {
	var all []byte
	for place, bit := range bitsOf(message) {
		told, other := halfOf(s.Told[place]), s.Half[place]
		if bit == 0 {
			all = append(append(all, told[:]...), other[:]...)
		} else {
			all = append(append(all, other[:]...), told[:]...)
		}
	}
	return digestOf(all)
}

// marked is a signature of which no two bytes beside one another, and no two digests, are alike.
func marked() api.Sig {
	var s api.Sig
	for place := range 64 {
		s.Told[place], s.Half[place] = seedOf(byte(2*place)), seedOf(byte(2*place+1))
	}
	return s
}

// flipped is a signature of which one byte is another: one of its 4096, place by place Told and Half.
func flipped(s api.Sig, at int, by byte) api.Sig {
	if at/32%2 == 0 {
		s.Told[at/64][at%32] ^= by
	} else {
		s.Half[at/64][at%32] ^= by
	}
	return s
}

func parse(t *testing.T, text string) api.Digest {
	t.Helper()
	b, err := hex.DecodeString(text)
	if err != nil || len(b) != 32 {
		t.Fatalf("%q: %v", text, err)
	}
	return api.Digest(b)
}

func goes(t *testing.T, name string, e api.Errno) {
	t.Helper()
	if e != api.OK {
		t.Fatalf("%s: %v", name, e)
	}
}
