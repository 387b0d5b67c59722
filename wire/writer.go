package wire

import "cachet/api"

// Writer lays bytes.
type Writer struct {
	laid []byte
	made bool // a Writer that New did not make is as none
}

// New: P2.1.
func New() *Writer { return &Writer{made: true} }

// Number: P2.1.
func (w *Writer) Number(n int64) api.Errno { return w.figure(n, n >= 0) }

// Signed: P2.1.
func (w *Writer) Signed(n int64) api.Errno {
	return w.figure(folded(n), leastSigned <= n && n <= greatSigned)
}

// Bytes: P2.1.
func (w *Writer) Bytes(b []byte) api.Errno { return w.Raw(number(len(b)), b) }

// Text: P2.1.
func (w *Writer) Text(s string) api.Errno { return w.Bytes([]byte(s)) }

// Truth: P2.1.
func (w *Writer) Truth(is bool) api.Errno {
	if is {
		return w.Raw([]byte{1})
	}
	return w.Raw([]byte{0})
}

// Raw: P2.1.
func (w *Writer) Raw(l ...[]byte) api.Errno {
	if w.none() {
		return api.ErrNil
	}
	// All parts are measured ahead of the first one, so that nothing is laid where there is no room for all.
	room := api.MaxText - len(w.laid)
	for _, part := range l {
		if len(part) > room {
			return api.ErrLong
		}
		room -= len(part)
	}
	for _, part := range l {
		w.laid = append(w.laid, part...)
	}
	return api.OK
}

// All: P2.1.
func (w *Writer) All() []byte {
	if w.none() {
		return nil
	}
	return append([]byte(nil), w.laid...)
}

func (w *Writer) none() bool { return w == nil || !w.made }

// figure lays a number that may be.
func (w *Writer) figure(n int64, may bool) api.Errno {
	switch {
	case w.none():
		return api.ErrNil
	case !may:
		return api.ErrArg
	}
	return w.Raw(number(n))
}
