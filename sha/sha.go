// Package sha is layer 1, SHA-256: see shared/doc/01-sha.md.
package sha

import (
	"cmp"

	"cachet/api"
)

// Sum: P1.1.
func Sum(b []byte) api.Digest { return Of(b) }

// Of: P1.1.
func Of(parts ...[]byte) api.Digest {
	h := New()
	for _, part := range parts {
		h.Write(part)
	}
	return h.Sum()
}

// Compare: P1.2.
func Compare(a, b api.Digest) int {
	for i, x := range a {
		if x != b[i] {
			return cmp.Compare(x, b[i])
		}
	}
	return 0
}

// read makes one number of parts that are so many bits wide, the highest ahead.
func read[N byte | uint32](parts []byte, width int) N {
	var n N
	for _, part := range parts {
		n = n<<width | N(part)
	}
	return n
}

// lay fills bytes with a number, the highest ahead.
func lay[N uint32 | uint64](to []byte, n N) {
	for i := range to {
		to[len(to)-1-i] = byte(n)
		n >>= 8
	}
}
