package merkle

import (
	"iter"
	"slices"

	"cachet/api"
)

// leafList is a tree's leaves. All rows come of them, so that they alone are kept.
type leafList []api.Digest

// Tree is leaves under a root. One that New did not make has no leaves, and is as none.
type Tree struct{ leafList }

// New: P4.1.
func New(leaves ...api.Digest) (*Tree, api.Errno) {
	if !may(len(leaves)) {
		return nil, api.ErrArg
	}
	return &Tree{slices.Clone(leaves)}, api.OK
}

// Root: P4.1.
func (t *Tree) Root() (api.Digest, api.Errno) {
	if t.none() {
		return api.Digest{}, api.ErrNil
	}
	rows := t.rows()
	return rows[len(rows)-1][0], api.OK
}

// Leaf: P4.1.
func (t *Tree) Leaf(i int) (api.Digest, api.Errno) {
	if e := t.asked(i); e != api.OK {
		return api.Digest{}, e
	}
	return t.leafList[i], api.OK
}

// Path: P4.2.
func (t *Tree) Path(i int) ([]api.Digest, api.Errno) {
	if e := t.asked(i); e != api.OK {
		return nil, e
	}
	var path []api.Digest
up:
	for row := range t.Rows() {
		switch {
		case len(row) == 1:
			break up
		case there(other(i), len(row)):
			path = append(path, row[other(i)])
		}
		i /= 2
	}
	return path, api.OK
}

// Rows: P4.2.
func (t *Tree) Rows() iter.Seq[[]api.Digest] {
	return func(yield func([]api.Digest) bool) {
		if t.none() {
			return
		}
		// All rows are made ahead of the first one that is told, so that what is done with it does not go up.
		for _, row := range t.rows() {
			if !yield(row) {
				return
			}
		}
	}
}

// Len: P4.1.
func (t *Tree) Len() int {
	if t.none() {
		return 0
	}
	return len(t.leafList)
}

func (t *Tree) none() bool { return t == nil || len(t.leafList) == 0 }

// asked tells what is wrong with asking a tree for a place.
func (t *Tree) asked(i int) api.Errno {
	switch {
	case t.none():
		return api.ErrNil
	case !there(i, len(t.leafList)):
		return api.ErrRange
	}
	return api.OK
}

// rows makes all rows, from the marks up to the root.
func (l leafList) rows() [][]api.Digest {
	mark, join := behind(marked), behind(joined)
	var marks []api.Digest
	for _, leaf := range l {
		marks = append(marks, mark(leaf))
	}
	return rowsFrom(marks, join)
}
