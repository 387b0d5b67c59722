package merkle_test

import (
	"slices"
	"testing"

	"cachet/api"
)

// P4.2: paths written out: the other one of two, row by row; an odd one has none in its row.
func TestPathWrittenOut(t *testing.T) {
	m := func(i int) api.Digest { return markOf(leafOf(i)) }
	two := func(i, j int) api.Digest { return twoOf(m(i), m(j)) }
	four := twoOf(two(0, 1), two(2, 3))
	rows := []struct {
		i, n int
		want []api.Digest
	}{
		{0, 1, nil},
		{0, 2, []api.Digest{m(1)}},
		{1, 2, []api.Digest{m(0)}},
		{0, 3, []api.Digest{m(1), m(2)}},
		{1, 3, []api.Digest{m(0), m(2)}},
		{2, 3, []api.Digest{two(0, 1)}},
		{2, 4, []api.Digest{m(3), two(0, 1)}},
		{3, 4, []api.Digest{m(2), two(0, 1)}},
		{0, 5, []api.Digest{m(1), two(2, 3), m(4)}},
		{3, 5, []api.Digest{m(2), two(0, 1), m(4)}},
		{4, 5, []api.Digest{four}},
		{1, 6, []api.Digest{m(0), two(2, 3), two(4, 5)}},
		{4, 6, []api.Digest{m(5), four}},
		{5, 6, []api.Digest{m(4), four}},
		{5, 7, []api.Digest{m(4), m(6), four}},
		{6, 7, []api.Digest{two(4, 5), four}},
	}
	for _, row := range rows {
		if p := path(t, plant(t, leavesOf(row.n)...), row.i); !slices.Equal(p, row.want) {
			t.Errorf("%d among %d: %x", row.i, row.n, p)
		}
	}
}

// P4.2: all places among all numbers of leaves.
func TestPath(t *testing.T) {
	for n := 1; n <= 16; n++ {
		for name, leaves := range map[string][]api.Digest{"unlike": leavesOf(n), "alike": alike(n)} {
			m := plant(t, leaves...)
			for i := range n {
				if p := path(t, m, i); !slices.Equal(p, pathOf(i, leaves)) {
					t.Errorf("%d among %d %s: %x", i, n, name, p)
				}
			}
		}
	}
}

// P4.2: places that are not there: one below, one beyond, and far ones.
func TestPathRefuses(t *testing.T) {
	for n := 1; n <= 16; n++ {
		m := plant(t, leavesOf(n)...)
		for _, i := range noPlaces(n) {
			if p, e := m.Path(i); len(p) != 0 || e != api.ErrRange {
				t.Errorf("%d leaves: Path %d: %x, %v", n, i, p, e)
			}
		}
	}
}

// What holds everywhere: a path is new memory each time.
func TestPathIsApart(t *testing.T) {
	for n := 1; n <= 16; n++ {
		m := plant(t, leavesOf(n)...)
		for i := range n {
			first, second := path(t, m, i), path(t, m, i)
			clear(first[:cap(first)])
			want := pathOf(i, leavesOf(n))
			if !slices.Equal(second, want) || !slices.Equal(path(t, m, i), want) || root(t, m) != rootOf(leavesOf(n)) {
				t.Errorf("%d among %d: a path's memory is another one's too", i, n)
			}
		}
	}
}

// P4.2: all rows, from the marks up to the root.
func TestRows(t *testing.T) {
	for n := 1; n <= 16; n++ {
		for name, leaves := range map[string][]api.Digest{"unlike": leavesOf(n), "alike": alike(n)} {
			rows := collect(plant(t, leaves...))
			if !sameRows(rows, rowsOf(leaves)) {
				t.Errorf("%d %s: %d rows, or others", n, name, len(rows))
			}
			if top := rows[len(rows)-1]; len(top) != 1 || top[0] != rootOf(leaves) {
				t.Errorf("%d %s: the last row is not the root", n, name)
			}
		}
	}
}

// P4.2: how many digests the rows have, where one is odd in the lowest row, further up, in none.
func TestRowLengths(t *testing.T) {
	rows := map[int][]int{
		1: {1}, 2: {2, 1}, 3: {3, 2, 1}, 4: {4, 2, 1}, 5: {5, 3, 2, 1}, 6: {6, 3, 2, 1}, 7: {7, 4, 2, 1}, 8: {8, 4, 2, 1},
		9: {9, 5, 3, 2, 1}, 10: {10, 5, 3, 2, 1}, 11: {11, 6, 3, 2, 1}, 12: {12, 6, 3, 2, 1},
		13: {13, 7, 4, 2, 1}, 14: {14, 7, 4, 2, 1}, 15: {15, 8, 4, 2, 1}, 16: {16, 8, 4, 2, 1},
	}
	for n, want := range rows {
		var got []int
		for row := range plant(t, leavesOf(n)...).Rows() {
			got = append(got, len(row))
		}
		if !slices.Equal(got, want) {
			t.Errorf("%d leaves: rows of %d, not %d", n, got, want)
		}
	}
}

// P4.2: rows are left at once, in the midst, at the last one; then nothing more is told.
func TestRowsAreLeft(t *testing.T) {
	for n := 1; n <= 16; n++ {
		want := rowsOf(leavesOf(n))
		rows := plant(t, leavesOf(n)...).Rows()
		for last := range want {
			told := 0
			rows(func(row []api.Digest) bool {
				if told > last || !slices.Equal(row, want[told]) {
					t.Fatalf("%d leaves, left at %d: row %d is another one, or told behind it", n, last, told)
				}
				told++
				return told <= last
			})
			if told != last+1 {
				t.Errorf("%d leaves, left at %d: %d were told", n, last, told)
			}
		}
	}
}

// P4.2: rows may be gone over again behind a loop that was left, whole, and within one another.
func TestRowsAgain(t *testing.T) {
	want := rowsOf(leavesOf(11))
	m := plant(t, leavesOf(11)...)
	rows := m.Rows()
	for range rows {
		break
	}
	for range 2 {
		if !sameRows(slices.Collect(rows), want) || !sameRows(collect(m), want) {
			t.Error("gone over again: others")
		}
	}
	count := 0
	for range rows {
		inner := 0
		for row := range rows {
			if !slices.Equal(row, want[inner]) {
				t.Errorf("within one another: row %d is another one", inner)
			}
			inner++
		}
		count += inner
	}
	if count != len(want)*len(want) {
		t.Errorf("within one another: %d", count)
	}
}

// P4.2: what is told is new memory each time: what is done with a row, and behind it, changes no other one.
func TestRowsAreApart(t *testing.T) {
	for n := 1; n <= 16; n++ {
		want := rowsOf(leavesOf(n))
		m := plant(t, leavesOf(n)...)
		kept := collect(m)
		rows := m.Rows()
		for range 2 {
			told := 0
			for row := range rows {
				if !slices.Equal(row, want[told]) {
					t.Fatalf("%d leaves: row %d is another one", n, told)
				}
				clear(row[:cap(row)])
				told++
			}
		}
		if !sameRows(kept, want) || root(t, m) != rootOf(leavesOf(n)) {
			t.Errorf("%d leaves: a row's memory is another one's too", n)
		}
		for k, row := range kept {
			clear(row[:cap(row)])
			if !sameRows(kept[k+1:], want[k+1:]) {
				t.Errorf("%d leaves: row %d has the memory of one above it", n, k)
			}
		}
	}
}
