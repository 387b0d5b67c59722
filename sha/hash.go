package sha

import (
	"iter"

	"cachet/api"
)

// Hash is a digest under way. It is made of values alone, so that a copy of it goes on apart.
type Hash struct {
	state
	rest   [size]byte // its first length%size bytes wait till they are a block
	length int64
	made   bool // a Hash that New did not make is as none
}

// New: P1.3.
func New() *Hash { return &Hash{state: squareWords, made: true} }

// Write: P1.3.
func (h *Hash) Write(b []byte) api.Errno {
	if h.none() {
		return api.ErrNil
	}
	for block := range h.blocks(b) {
		h.take(block)
	}
	return api.OK
}

// Sum: P1.3.
func (h *Hash) Sum() api.Digest {
	if h.none() {
		return api.Digest{}
	}
	// The tail goes into a copy, because more may be written then.
	end := h.Copy()
	end.Write(tail(h.length))
	return end.digest()
}

// Len: P1.3.
func (h *Hash) Len() int64 {
	if h.none() {
		return 0
	}
	return h.length
}

// Copy: P1.3.
func (h *Hash) Copy() *Hash {
	if h.none() {
		return nil
	}
	other := *h
	return &other
}

func (h *Hash) none() bool { return h == nil || !h.made }

// blocks lays bytes behind the rest, and goes over the blocks that come whole by it.
func (h *Hash) blocks(b []byte) iter.Seq[[size]byte] {
	return func(yield func([size]byte) bool) {
		for len(b) > 0 {
			n := copy(h.rest[h.length%size:], b)
			h.length += int64(n)
			b = b[n:]
			if h.length%size == 0 && !yield(h.rest) {
				return
			}
		}
	}
}

// tail makes what is laid behind so many bytes.
func tail(length int64) []byte {
	const mark, count = 1, 8
	noughts := (2*size - mark - count - length%size) % size
	t := make([]byte, mark+noughts+count)
	t[0] = 128
	lay(t[mark+noughts:], uint64(length)*8)
	return t
}
