package merkle_test

import (
	"slices"
	"testing"

	"cachet/api"
	"cachet/merkle"
)

// stepsOf are the steps of each place, written out by the number of leaves.
func stepsOf(n int) string {
	return [...]string{
		"0", "11", "221", "2222", "33331", "333322", "3333332", "33333333",
		"444444441", "4444444422", "44444444332", "444444443333", "4444444444442", "44444444444433", "444444444444443", "4444444444444444",
	}[n-1]
}

// P4.3: how many digests a path has, of all places.
func TestSteps(t *testing.T) {
	for n := 1; n <= 16; n++ {
		if len(stepsOf(n)) != n {
			t.Fatalf("%d: %q", n, stepsOf(n))
		}
		for i, digit := range stepsOf(n) {
			if k, e := merkle.Steps(i, n); k != int(digit-'0') || e != api.OK {
				t.Errorf("%d among %d: %d, %v", i, n, k, e)
			}
			if p := path(t, plant(t, leavesOf(n)...), i); len(p) != int(digit-'0') {
				t.Errorf("%d among %d: a path of %d", i, n, len(p))
			}
		}
	}
}

// refused asks that no call takes a place among so many, with paths of all lengths.
func refused(t *testing.T, i, n int, want api.Errno) {
	t.Helper()
	if k, e := merkle.Steps(i, n); k != 0 || e != want {
		t.Errorf("%d among %d: Steps %d, %v", i, n, k, e)
	}
	for length := range 6 {
		p := leavesOf(length)
		if d, e := merkle.Up(leafOf(0), i, n, p...); d != (api.Digest{}) || e != want {
			t.Errorf("%d among %d, a path of %d: Up %x, %v", i, n, length, d, e)
		}
		if e := merkle.Check(api.Digest{}, leafOf(0), i, n, p...); e != want {
			t.Errorf("%d among %d, a path of %d: Check %v", i, n, length, e)
		}
	}
}

// P4.3: a number of leaves that may not be is asked first, whatever the place and the path.
func TestNoCount(t *testing.T) {
	for _, n := range noCounts() {
		for _, i := range append(noPlaces(n), 0, 1, 2, 15, 16, n-1, n/2) {
			refused(t, i, n, api.ErrArg)
		}
	}
}

// P4.3: then a place that there is not, whatever the path.
func TestNoPlace(t *testing.T) {
	for n := 1; n <= 16; n++ {
		for _, i := range noPlaces(n) {
			refused(t, i, n, api.ErrRange)
		}
	}
}

// P4.3: then a path that has not just as many digests: too few, too many, none where there are some, some where there is none.
func TestNoPath(t *testing.T) {
	for n := 1; n <= 16; n++ {
		m := plant(t, leavesOf(n)...)
		for i := range n {
			whole := slices.Concat(path(t, m, i), leavesOf(300))
			for _, length := range []int{0, 1, 2, 3, 4, 5, 6, 16, 256, 256 + 1, 256 + 4} {
				if length == len(pathOf(i, leavesOf(n))) {
					continue
				}
				if d, e := merkle.Up(leafOf(i), i, n, whole[:length]...); d != (api.Digest{}) || e != api.ErrPath {
					t.Errorf("%d among %d, %d digests: Up %x, %v", i, n, length, d, e)
				}
				for _, r := range []api.Digest{root(t, m), {}} {
					if e := merkle.Check(r, leafOf(i), i, n, whole[:length]...); e != api.ErrPath {
						t.Errorf("%d among %d, %d digests: Check %v", i, n, length, e)
					}
				}
			}
		}
	}
}

// P4.3: a nil path is as an empty one: it goes where there is one leaf, and nowhere else.
func TestEmptyPath(t *testing.T) {
	for _, p := range [][]api.Digest{nil, {}} {
		if d, e := merkle.Up(leafOf(0), 0, 1, p...); d != markOf(leafOf(0)) || e != api.OK {
			t.Errorf("one leaf: %x, %v", d, e)
		}
		if e := merkle.Check(markOf(leafOf(0)), leafOf(0), 0, 1, p...); e != api.OK {
			t.Errorf("one leaf: %v", e)
		}
		if d, e := merkle.Up(leafOf(0), 0, 2, p...); d != (api.Digest{}) || e != api.ErrPath {
			t.Errorf("two leaves: %x, %v", d, e)
		}
	}
}

// P4.3: which stands left, and which right, written out.
func TestUpSides(t *testing.T) {
	leaf, a, b, c := leafOf(9), leafOf(10), leafOf(11), leafOf(12)
	m := markOf(leaf)
	rows := []struct {
		i, n int
		path []api.Digest
		want api.Digest
	}{
		{0, 1, nil, m},
		{0, 2, []api.Digest{a}, twoOf(m, a)},
		{1, 2, []api.Digest{a}, twoOf(a, m)},
		{0, 3, []api.Digest{a, b}, twoOf(twoOf(m, a), b)},
		{1, 3, []api.Digest{a, b}, twoOf(twoOf(a, m), b)},
		{2, 3, []api.Digest{a}, twoOf(a, m)},
		{2, 4, []api.Digest{a, b}, twoOf(b, twoOf(m, a))},
		{3, 4, []api.Digest{a, b}, twoOf(b, twoOf(a, m))},
		{4, 5, []api.Digest{a}, twoOf(a, m)},
		{4, 6, []api.Digest{a, b}, twoOf(b, twoOf(m, a))},
		{6, 7, []api.Digest{a, b}, twoOf(b, twoOf(a, m))},
		{5, 7, []api.Digest{a, b, c}, twoOf(c, twoOf(twoOf(a, m), b))},
		{2, 8, []api.Digest{a, b, c}, twoOf(twoOf(b, twoOf(m, a)), c)},
		{8, 9, []api.Digest{a}, twoOf(a, m)},
	}
	for _, row := range rows {
		if d, e := merkle.Up(leaf, row.i, row.n, row.path...); d != row.want || e != api.OK {
			t.Errorf("%d among %d: %x, %v", row.i, row.n, d, e)
		}
	}
}

// P4.3, P4.4: where one comes to by any digests, of no tree too, is as said; Check takes just that.
func TestUp(t *testing.T) {
	for n := 1; n <= 16; n++ {
		for i := range n {
			shape := shapeOf(i, n)
			for _, p := range [][]api.Digest{leavesOf(40)[20 : 20+len(shape)], alike(len(shape)), make([]api.Digest, len(shape))} {
				want := upOf(leafOf(i), shape, p)
				if d, e := merkle.Up(leafOf(i), i, n, p...); d != want || e != api.OK {
					t.Errorf("%d among %d: %x, %v", i, n, d, e)
				}
				if e := merkle.Check(want, leafOf(i), i, n, p...); e != api.OK {
					t.Errorf("%d among %d: %v", i, n, e)
				}
				if e := merkle.Check(api.Digest{}, leafOf(i), i, n, p...); e != api.ErrPath {
					t.Errorf("%d among %d, a root of noughts: %v", i, n, e)
				}
			}
		}
	}
}

// P4.4: each leaf with its path comes to the root.
func TestCheckOfPath(t *testing.T) {
	for n := 1; n <= 16; n++ {
		for name, leaves := range map[string][]api.Digest{"unlike": leavesOf(n), "alike": alike(n), "noughts": make([]api.Digest, n)} {
			m := plant(t, leaves...)
			for i, leaf := range leaves {
				p := path(t, m, i)
				if e := merkle.Check(root(t, m), leaf, i, n, p...); e != api.OK {
					t.Errorf("%d among %d %s: %v", i, n, name, e)
				}
				if d, e := merkle.Up(leaf, i, n, p...); d != root(t, m) || e != api.OK {
					t.Errorf("%d among %d %s: %x, %v", i, n, name, d, e)
				}
			}
		}
	}
}

// P4.4: another bit in the path, the leaf, the root is another way, which is not taken.
func TestCheckEveryBit(t *testing.T) {
	for _, n := range []int{1, 2, 3, 5, 6, 11, 16} {
		m := plant(t, leavesOf(n)...)
		r := root(t, m)
		for i := range n {
			p := path(t, m, i)
			for bit := range 256 {
				at, by := bit/8, byte(1)<<(bit%8)
				leaf, top := leafOf(i), r
				leaf[at] ^= by
				top[at] ^= by
				if e := merkle.Check(r, leaf, i, n, p...); e != api.ErrPath {
					t.Errorf("%d among %d, bit %d of the leaf: %v", i, n, bit, e)
				}
				if e := merkle.Check(top, leafOf(i), i, n, p...); e != api.ErrPath {
					t.Errorf("%d among %d, bit %d of the root: %v", i, n, bit, e)
				}
				for k := range p {
					other := slices.Clone(p)
					other[k][at] ^= by
					d, e := merkle.Up(leafOf(i), i, n, other...)
					if d != upOf(leafOf(i), shapeOf(i, n), other) || e != api.OK {
						t.Errorf("%d among %d, bit %d of digest %d: Up %x, %v", i, n, bit, k, d, e)
					}
					if e := merkle.Check(r, leafOf(i), i, n, other...); e != api.ErrPath {
						t.Errorf("%d among %d, bit %d of digest %d: Check %v", i, n, bit, k, e)
					}
				}
			}
		}
	}
}

// P4.3: another leaf, its path's digests in another order.
func TestCheckRefuses(t *testing.T) {
	for n := 2; n <= 16; n++ {
		m := plant(t, leavesOf(n)...)
		for i := range n {
			p := path(t, m, i)
			for j := range n {
				if e := merkle.Check(root(t, m), leafOf(j), i, n, p...); (e == api.OK) != (i == j) || (e == api.ErrPath) != (i != j) {
					t.Errorf("%d among %d, leaf %d: %v", i, n, j, e)
				}
			}
			if len(p) < 2 {
				continue
			}
			slices.Reverse(p)
			if e := merkle.Check(root(t, m), leafOf(i), i, n, p...); e != api.ErrPath {
				t.Errorf("%d among %d, a path from above: %v", i, n, e)
			}
		}
	}
}

// P4.3, P4.4: another place, another number of leaves: it is taken just where the way up is the same, since Up hangs on nothing else.
func TestCheckElsewhere(t *testing.T) {
	for n := 1; n <= 16; n++ {
		m := plant(t, leavesOf(n)...)
		for i := range n {
			p := path(t, m, i)
			for count := 1; count <= 16; count++ {
				for place := range count {
					want := api.ErrPath
					if shapeOf(place, count) == shapeOf(i, n) {
						want = api.OK
					}
					if n == count && i != place && want == api.OK {
						t.Fatalf("%d and %d among %d are the same", i, place, n)
					}
					if e := merkle.Check(root(t, m), leafOf(i), place, count, p...); e != want {
						t.Errorf("%d among %d as %d among %d: %v, not %v", i, n, place, count, e, want)
					}
				}
			}
		}
	}
}

// P4.4: where all leaves are alike, one's path is also that of another one whose digests are the same.
func TestCheckOfAlike(t *testing.T) {
	for _, n := range []int{2, 4, 8, 16} {
		m := plant(t, alike(n)...)
		for i := range n {
			if e := merkle.Check(root(t, m), leafOf(5), i, n, path(t, m, 0)...); e != api.OK {
				t.Errorf("%d among %d: %v", i, n, e)
			}
		}
	}
	m := plant(t, alike(3)...)
	if e := merkle.Check(root(t, m), leafOf(5), 1, 3, path(t, m, 0)...); e != api.OK {
		t.Errorf("1 among 3: %v", e)
	}
	if e := merkle.Check(root(t, m), leafOf(5), 2, 3, path(t, m, 0)...); e != api.ErrPath {
		t.Errorf("2 among 3: %v", e)
	}
}

// What holds everywhere: a path that is handed in stays as it is, spare room included.
func TestPathStays(t *testing.T) {
	for n := 1; n <= 16; n++ {
		for i := range n {
			whole := leavesOf(40)
			p := whole[:len(shapeOf(i, n))]
			first, _ := merkle.Up(leafOf(i), i, n, p...)
			merkle.Check(first, leafOf(i), i, n, p...)
			again, _ := merkle.Up(leafOf(i), i, n, p...)
			if first != again || !slices.Equal(whole, leavesOf(40)) {
				t.Errorf("%d among %d: the path was changed", i, n)
			}
		}
	}
}
