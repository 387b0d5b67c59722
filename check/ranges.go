package check

import (
	"math"
	"math/bits"

	"cachet/api"
)

func nothing() api.Range { return api.Range{} }

func from(least, great uint32) api.Range {
	return api.Range{Set: true, Least: least, Great: great}
}

func just(n uint32) api.Range { return from(n, n) }

func all() api.Range { return from(0, math.MaxUint32) }

func octet() api.Range { return from(0, math.MaxUint8) }

// wide is from least to great, or all, where great is above what a word may be.
func wide(least, great uint64) api.Range {
	if great > math.MaxUint32 {
		return all()
	}
	return from(uint32(least), uint32(great))
}

// span is what is known of a register by two ways.
func span(a, b api.Range) api.Range {
	if !a.Set || !b.Set {
		return nothing()
	}
	return from(min(a.Least, b.Least), max(a.Great, b.Great))
}

func sum(d, s api.Range) api.Range {
	return wide(uint64(d.Least)+uint64(s.Least), uint64(d.Great)+uint64(s.Great))
}

func difference(d, s api.Range) api.Range {
	if s.Great > d.Least {
		return all()
	}
	return from(d.Least-s.Great, d.Great-s.Least)
}

func product(d, s api.Range) api.Range {
	return wide(uint64(d.Least)*uint64(s.Least), uint64(d.Great)*uint64(s.Great))
}

// quotient gives up where S may be 0.
func quotient(d, s api.Range) api.Range {
	notZero(s)
	return from(d.Least/s.Great, d.Great/s.Least)
}

// rest gives up where S may be 0.
func rest(d, s api.Range) api.Range {
	notZero(s)
	return from(0, min(d.Great, s.Great-1))
}

func notZero(s api.Range) {
	if s.Least == 0 {
		panic(zero{})
	}
}

func common(d, s api.Range) api.Range { return from(0, min(d.Great, s.Great)) }

func either(d, s api.Range) api.Range {
	return from(max(d.Least, s.Least), ones(max(d.Great, s.Great)))
}

func apart(d, s api.Range) api.Range { return from(0, ones(max(d.Great, s.Great))) }

// ones is the least number that is 2 to some power less 1, and is not less than n.
func ones(n uint32) uint32 { return uint32(1)<<bits.Len32(n) - 1 }

// has tells whether a number is in a range.
func has(r api.Range, n uint32) bool { return r.Least <= n && n <= r.Great }

// without takes a number off the end of a range that has others too.
func without(r api.Range, n uint32) api.Range {
	switch n {
	case r.Least:
		r.Least++
	case r.Great:
		r.Great--
	}
	return r
}

func atMost(r api.Range, n uint32) api.Range { return from(r.Least, min(r.Great, n)) }

func atLeast(r api.Range, n uint32) api.Range { return from(max(r.Least, n), r.Great) }
