package lamport

import (
	"iter"

	"cachet/api"
)

const (
	size   = len(api.Digest{})
	length = places * bits * size
)

// Raw: P3.3.
func Raw(s api.Sig) []byte {
	b := make([]byte, 0, length)
	for _, d := range Parts(s) {
		b = append(b, d[:]...)
	}
	return b
}

// Read: P3.3.
func Read(b []byte) (api.Sig, bool) {
	if len(b) != length {
		return api.Sig{}, false
	}
	var s api.Sig
	for place := range places {
		both := b[place*bits*size:]
		copy(s.Told[place][:], both)
		copy(s.Half[place][:], both[size:])
	}
	return s, true
}

// Parts: P3.3.
func Parts(s api.Sig) iter.Seq2[int, api.Digest] {
	return func(yield func(int, api.Digest) bool) {
		for place := range places {
			if !yield(bits*place, s.Told[place]) || !yield(bits*place+1, s.Half[place]) {
				return
			}
		}
	}
}
