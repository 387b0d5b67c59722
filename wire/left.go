package wire

import "cachet/api"

// left is what is left of a reader's bytes; what its methods find is cut off it.
type left []byte

// whole finds a number, however great.
func (l *left) whole() (int64, api.Errno) {
	var n int64
	for i, b := range *l {
		if b >= more {
			if i == longest-1 {
				return 0, api.ErrForm
			}
			n |= int64(b-more) << (width * i)
			continue
		}
		if b == 0 && i > 0 {
			return 0, api.ErrForm
		}
		*l = (*l)[i+1:]
		return n | int64(b)<<(width*i), api.OK
	}
	return 0, api.ErrEnds
}

func (l *left) number(most int64) (int64, api.Errno) {
	n, e := l.whole()
	switch {
	case e != api.OK:
		return 0, e
	case n > most:
		return 0, api.ErrLong
	}
	return n, api.OK
}

func (l *left) signed() (int64, api.Errno) {
	n, e := l.whole()
	return unfolded(n), e
}

func (l *left) bytes(most int) ([]byte, api.Errno) {
	n, e := l.number(int64(most))
	if e != api.OK {
		return nil, e
	}
	return l.raw(int(n))
}

func (l *left) text(most int) (string, api.Errno) {
	b, e := l.bytes(most)
	return string(b), e
}

func (l *left) truth() (bool, api.Errno) {
	b, e := l.raw(1)
	switch {
	case e != api.OK:
		return false, e
	case b[0] > 1:
		return false, api.ErrForm
	}
	return b[0] == 1, api.OK
}

func (l *left) raw(n int) ([]byte, api.Errno) {
	if n > len(*l) {
		return nil, api.ErrEnds
	}
	b := append([]byte(nil), (*l)[:n]...)
	*l = (*l)[n:]
	return b, api.OK
}
