package merkle

import (
	"slices"

	"cachet/api"
	"cachet/sha"
)

// What stands ahead of what is hashed, so that nothing is both a leaf's mark and made of two.
const (
	marked byte = 0
	joined byte = 1
)

// behind makes what puts digests together behind such a byte.
func behind(first byte) func(...api.Digest) api.Digest {
	return func(digests ...api.Digest) api.Digest {
		parts := [][]byte{{first}}
		for _, d := range digests {
			parts = append(parts, d[:])
		}
		return sha.Of(parts...)
	}
}

// rowsFrom makes of a row all rows from it on, up to a row of one.
func rowsFrom[T any](row []T, join func(...T) T) [][]T {
	rows := [][]T{row}
	for len(row) > 1 {
		row = above(row, join)
		rows = append(rows, row)
	}
	return rows
}

// above makes the row above one.
func above[T any](row []T, join func(...T) T) []T {
	var upper []T
	for two := range slices.Chunk(row, 2) {
		if len(two) == 2 {
			upper = append(upper, join(two...))
		} else {
			upper = append(upper, two...)
		}
	}
	return upper
}
