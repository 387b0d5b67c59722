package merkle_test

import (
	"crypto/sha256"
	"encoding/hex"
	"math"
	"slices"
	"testing"

	"cachet/api"
	"cachet/merkle"
)

// leafOf is one of many leaves of which no two are alike, nor two bytes beside one another.
func leafOf(i int) api.Digest {
	var d api.Digest
	for j := range d {
		d[j] = byte(37*i + 11*j + 1)
	}
	return d
}

// leavesOf are the first n of them.
func leavesOf(n int) []api.Digest {
	l := make([]api.Digest, n)
	for i := range l {
		l[i] = leafOf(i)
	}
	return l
}

// alike are n leaves that are all the same.
func alike(n int) []api.Digest { return slices.Repeat([]api.Digest{leafOf(5)}, n) }

// markOf is the document's mark, by the library's own digest: of 33 bytes.
func markOf(leaf api.Digest) api.Digest { return sha256.Sum256(append([]byte{0}, leaf[:]...)) }

// twoOf is what two make that are put together: the digest of 65 bytes.
func twoOf(left, right api.Digest) api.Digest {
	return sha256.Sum256(slices.Concat([]byte{1}, left[:], right[:]))
}

// cut tells where a tree parts below its root: the left part has the greatest power of two that is less than all.
func cut(n int) int {
	left := 1
	for 2*left < n {
		left *= 2
	}
	return left
}

// rootOf is the root, from above: the program goes from below, so that the two are made apart.
func rootOf(leaves []api.Digest) api.Digest {
	if len(leaves) == 1 {
		return markOf(leaves[0])
	}
	c := cut(len(leaves))
	return twoOf(rootOf(leaves[:c]), rootOf(leaves[c:]))
}

// pathOf is the path, from above likewise.
func pathOf(i int, leaves []api.Digest) []api.Digest {
	if len(leaves) == 1 {
		return nil
	}
	c := cut(len(leaves))
	if i < c {
		return append(pathOf(i, leaves[:c]), rootOf(leaves[c:]))
	}
	return append(pathOf(i-c, leaves[c:]), rootOf(leaves[:c]))
}

// shapeOf tells step by step where a place stands, L or R, from below.
func shapeOf(i, n int) string {
	if n == 1 {
		return ""
	}
	c := cut(n)
	if i < c {
		return shapeOf(i, c) + "L"
	}
	return shapeOf(i-c, n-c) + "R"
}

// upOf is where one comes to by a path of a shape.
func upOf(leaf api.Digest, shape string, path []api.Digest) api.Digest {
	at := markOf(leaf)
	for k, side := range shape {
		if side == 'L' {
			at = twoOf(at, path[k])
		} else {
			at = twoOf(path[k], at)
		}
	}
	return at
}

// rowsOf are the rows as the document makes them, digest by digest.
func rowsOf(leaves []api.Digest) [][]api.Digest {
	row := make([]api.Digest, len(leaves))
	for i, leaf := range leaves {
		row[i] = markOf(leaf)
	}
	rows := [][]api.Digest{row}
	for len(row) > 1 {
		upper := make([]api.Digest, (len(row)+1)/2)
		for i := range upper {
			upper[i] = row[2*i]
			if 2*i+1 < len(row) {
				upper[i] = twoOf(row[2*i], row[2*i+1])
			}
		}
		row = upper
		rows = append(rows, row)
	}
	return rows
}

// noCounts are no leaves, one more than there may be, and such as would be a number of leaves if they were cut.
func noCounts() []int {
	return []int{0, 17, -1, 18, 32, -16, 255, 256, 257, 272, 65537, 1 << 31, 1<<32 + 1, 1<<32 + 16, math.MinInt, math.MinInt + 1, math.MaxInt}
}

// noPlaces are one below, one beyond, and others that are not there among n.
func noPlaces(n int) []int {
	return []int{-1, n, -2, n + 1, -n, 2 * n, 2*n + 1, 255, 256, 1 << 31, 1 << 32, math.MinInt, math.MinInt + 1, math.MaxInt - 1, math.MaxInt}
}

// plant makes a tree, which must go.
func plant(t *testing.T, leaves ...api.Digest) *merkle.Tree {
	t.Helper()
	m, e := merkle.New(leaves...)
	if m == nil || e != api.OK {
		t.Fatalf("New of %d leaves: %v", len(leaves), e)
	}
	return m
}

// root asks for a root, which must be there.
func root(t *testing.T, m *merkle.Tree) api.Digest {
	t.Helper()
	d, e := m.Root()
	if e != api.OK {
		t.Fatalf("Root: %v", e)
	}
	return d
}

// path asks for a path, which must be there.
func path(t *testing.T, m *merkle.Tree, i int) []api.Digest {
	t.Helper()
	p, e := m.Path(i)
	if e != api.OK {
		t.Fatalf("Path of %d: %v", i, e)
	}
	return p
}

// collect goes over all rows, and takes what is told as it is.
func collect(m *merkle.Tree) [][]api.Digest { return slices.Collect(m.Rows()) }

// sameRows asks whether rows are alike, digest by digest.
func sameRows(a, b [][]api.Digest) bool { return slices.EqualFunc(a, b, slices.Equal) }

func parse(t *testing.T, text string) api.Digest {
	t.Helper()
	b, err := hex.DecodeString(text)
	if err != nil || len(b) != 32 {
		t.Fatalf("%q: %v", text, err)
	}
	return api.Digest(b)
}
