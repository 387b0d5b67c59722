package wire

import "cachet/api"

// Reader takes bytes off.
type Reader struct {
	left
	place int
	flaw  api.Errno
	made  bool // a Reader that Read did not make is as none
}

// Read: P2.2.
func Read(b []byte) *Reader { return &Reader{left: append(left(nil), b...), made: true} }

// Number: P2.2.
func (r *Reader) Number(most int64) (int64, api.Errno) { return take(r, bounded((*left).number, most)) }

// Signed: P2.2.
func (r *Reader) Signed() (int64, api.Errno) { return take(r, (*left).signed) }

// Bytes: P2.2.
func (r *Reader) Bytes(most int) ([]byte, api.Errno) { return take(r, bounded((*left).bytes, most)) }

// Text: P2.2.
func (r *Reader) Text(most int) (string, api.Errno) { return take(r, bounded((*left).text, most)) }

// Truth: P2.2.
func (r *Reader) Truth() (bool, api.Errno) { return take(r, (*left).truth) }

// Raw: P2.2.
func (r *Reader) Raw(n int) ([]byte, api.Errno) { return take(r, bounded((*left).raw, n)) }

// At: P2.3.
func (r *Reader) At() int {
	if r.none() {
		return 0
	}
	return r.place
}

// End: P2.3.
func (r *Reader) End() api.Errno {
	switch {
	case r.none():
		return api.ErrNil
	case r.flaw != api.OK:
		return r.flaw
	case len(r.left) > 0:
		return api.ErrLeft
	}
	return api.OK
}

func (r *Reader) none() bool { return r == nil || !r.made }

// take takes what a kind of call finds, and puts the place behind it; an error is the flaw from then on.
func take[T any](r *Reader, find func(*left) (T, api.Errno)) (T, api.Errno) {
	var nothing T
	switch {
	case r.none():
		return nothing, api.ErrNil
	case r.flaw != api.OK:
		return nothing, r.flaw
	}
	// What is found is cut off a copy, so that an error leaves the place.
	behind := r.left
	found, e := find(&behind)
	if e != api.OK {
		r.flaw = e
		return nothing, e
	}
	r.place += len(r.left) - len(behind)
	r.left = behind
	return found, api.OK
}

// bounded makes of a kind of call and its bound what finds within it.
func bounded[N int | int64, T any](kind func(*left, N) (T, api.Errno), bound N) func(*left) (T, api.Errno) {
	return func(l *left) (T, api.Errno) {
		if bound < 0 {
			var nothing T
			return nothing, api.ErrArg
		}
		return kind(l, bound)
	}
}
