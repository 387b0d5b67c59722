package merkle_test

import (
	"slices"
	"testing"

	"cachet/api"
	"cachet/merkle"
)

// P4.1: roots that were worked out elsewhere, of each number of leaves that may be.
func TestRootKnown(t *testing.T) {
	for i, text := range []string{
		"be427b3c07787f373b99562279bdac124e9265a0b066cdab736636feef5f5cc2",
		"926a7b2a61b832afde82c7f9d58796f59fad98554003166d626c6e075501cedc",
		"9f41e8be1bd9144ce1342e61c0d760498482a2030ea824aec3a6d484c6f4eec8",
		"5f8d982fc989f8e4015dd3c7a36044b7a1a2642c344619a1aed475dee0096942",
		"297d873e45f82354cb63f7b708753e5024bb51c2bb1d763c0620234f4a4028d1",
		"8db83e9f032d8165b067cdda6a8751b857d75427dffe4beab8708db3c93aa567",
		"aebc77b4aae1421802736b5c376aa627f5e2ecadc43d16c0bfec68ad8d2edda4",
		"80a6f6ecd32df715c51be9599481e16ed3a4332015bd92b5022d526dd3f47a5e",
		"4c8b7ce9b29f479e2a29cbd4d8b7d48f4e79a7e2f4d98784e9c5d9800d2c8bd5",
		"f02b25eb07c12063a182fc3f362b5156edfde08bc513335076dce77c46cf18cb",
		"3961adf0efb1f4b83db9ae8968fc4e7d936769e2fe4b3f078b1d1e084b01a22d",
		"94835ac35d7f07e5179f0524e7878e950812fb1d271f8ad69c3519d20f6fa1d7",
		"3bf532791eed575d4af32396309c51c17139e2f9d569e98fc0e53b03cb1ca5db",
		"330e7dc981826be33cc2f1838b0bba11cdfd574592b65393e93d97340277fd44",
		"c9e5c22cf0494d8b9d2adedf558803a74ccd98d8432d32b574ab2999171cc627",
		"8b253b272d94ea0373ff67bbdc9bb4daea03cbb35382ed374656cb580d915845",
	} {
		if d := root(t, plant(t, leavesOf(i+1)...)); d != parse(t, text) {
			t.Errorf("%d leaves: %x", i+1, d)
		}
	}
}

// P4.1: of one leaf the root is its mark; of some, written out, an odd one goes up as it is, also further up.
func TestRootWrittenOut(t *testing.T) {
	m := func(i int) api.Digest { return markOf(leafOf(i)) }
	rows := map[int]api.Digest{
		1: m(0),
		2: twoOf(m(0), m(1)),
		3: twoOf(twoOf(m(0), m(1)), m(2)),
		4: twoOf(twoOf(m(0), m(1)), twoOf(m(2), m(3))),
		5: twoOf(twoOf(twoOf(m(0), m(1)), twoOf(m(2), m(3))), m(4)),
		6: twoOf(twoOf(twoOf(m(0), m(1)), twoOf(m(2), m(3))), twoOf(m(4), m(5))),
		7: twoOf(twoOf(twoOf(m(0), m(1)), twoOf(m(2), m(3))), twoOf(twoOf(m(4), m(5)), m(6))),
	}
	for n, want := range rows {
		if root(t, plant(t, leavesOf(n)...)) != want {
			t.Errorf("%d leaves: another root", n)
		}
	}
}

// P4.1: roots, leaves and lengths of all numbers of leaves, of such as are unlike, alike, noughts.
func TestTree(t *testing.T) {
	for n := 1; n <= 16; n++ {
		for name, leaves := range map[string][]api.Digest{"unlike": leavesOf(n), "alike": alike(n), "noughts": make([]api.Digest, n)} {
			m := plant(t, leaves...)
			if root(t, m) != rootOf(leaves) {
				t.Errorf("%d %s: another root", n, name)
			}
			if m.Len() != n {
				t.Errorf("%d %s: Len %d", n, name, m.Len())
			}
			for i, leaf := range leaves {
				if d, e := m.Leaf(i); d != leaf || e != api.OK {
					t.Errorf("%d %s: Leaf %d: %x, %v", n, name, i, d, e)
				}
			}
		}
	}
}

// P4.1: each bit of each leaf, their order, their number is in the root.
func TestRootTellsLeavesApart(t *testing.T) {
	seen := map[api.Digest]int{}
	is := func(leaves []api.Digest) {
		t.Helper()
		d := root(t, plant(t, leaves...))
		if seen[d]++; seen[d] > 1 {
			t.Errorf("%d leaves: the root of others", len(leaves))
		}
	}
	for n := 1; n <= 16; n++ {
		is(leavesOf(n))
		for i := range n {
			for bit := range 256 {
				other := leavesOf(n)
				other[i][bit/8] ^= 1 << (bit % 8)
				is(other)
			}
			for j := range i {
				other := leavesOf(n)
				other[i], other[j] = other[j], other[i]
				is(other)
			}
		}
	}
	for n := 1; n <= 16; n++ {
		is(alike(n))
		is(make([]api.Digest, n))
	}
}

// P4.1: a leaf that is what two make is not taken for them.
func TestMarksAreNotJoined(t *testing.T) {
	two := root(t, plant(t, leavesOf(2)...))
	if root(t, plant(t, two)) == two {
		t.Error("a root as a leaf has itself as its root")
	}
	if root(t, plant(t, two, leafOf(2))) == root(t, plant(t, leavesOf(3)...)) {
		t.Error("a root as a leaf is as its leaves")
	}
}

// P4.1: no leaves, one more than there may be, and many.
func TestNewRefuses(t *testing.T) {
	none, empty := []api.Digest(nil), []api.Digest{}
	for _, leaves := range [][]api.Digest{none, empty, leavesOf(17), leavesOf(18), leavesOf(32), leavesOf(256), leavesOf(257), alike(17), make([]api.Digest, 1<<16+1)} {
		if m, e := merkle.New(leaves...); m != nil || e != api.ErrArg {
			t.Errorf("%d leaves: %v", len(leaves), e)
		}
	}
	if m, e := merkle.New(); m != nil || e != api.ErrArg {
		t.Errorf("no leaves: %v", e)
	}
}

// P4.1: places that are not there: one below, one beyond, and far ones.
func TestLeafRefuses(t *testing.T) {
	for n := 1; n <= 16; n++ {
		m := plant(t, leavesOf(n)...)
		for _, i := range noPlaces(n) {
			if d, e := m.Leaf(i); d != (api.Digest{}) || e != api.ErrRange {
				t.Errorf("%d leaves: Leaf %d: %x, %v", n, i, d, e)
			}
		}
	}
}

// P4.1, P4.2: a tree that is not there, one that no call made, one whose maker refused; ErrNil is asked ahead of ErrRange.
func TestNoTree(t *testing.T) {
	refused, _ := merkle.New()
	long, _ := merkle.New(leavesOf(17)...)
	for name, m := range map[string]*merkle.Tree{"nil": nil, "zero": {}, "new": new(merkle.Tree), "refused": refused, "long": long} {
		if d, e := m.Root(); d != (api.Digest{}) || e != api.ErrNil {
			t.Errorf("%s: Root %x, %v", name, d, e)
		}
		if n := m.Len(); n != 0 {
			t.Errorf("%s: Len %d", name, n)
		}
		for _, i := range append(noPlaces(0), noPlaces(16)...) {
			if d, e := m.Leaf(i); d != (api.Digest{}) || e != api.ErrNil {
				t.Errorf("%s: Leaf %d: %x, %v", name, i, d, e)
			}
			if p, e := m.Path(i); len(p) != 0 || e != api.ErrNil {
				t.Errorf("%s: Path %d: %x, %v", name, i, p, e)
			}
		}
		rows := m.Rows()
		if rows == nil {
			t.Fatalf("%s: no Rows", name)
		}
		for row := range rows {
			t.Errorf("%s: a row of %d", name, len(row))
		}
	}
}

// What holds everywhere: leaves that were handed in stay as they are, spare room included, and are not kept.
func TestLeavesStay(t *testing.T) {
	for n := 1; n <= 16; n++ {
		whole := leavesOf(40)
		m := plant(t, whole[:n]...)
		want := rootOf(leavesOf(n))
		collect(m)
		for i := range n {
			path(t, m, i)
		}
		if !slices.Equal(whole, leavesOf(40)) {
			t.Errorf("%d leaves: they were changed", n)
		}
		clear(whole)
		if root(t, m) != want || !sameRows(collect(m), rowsOf(leavesOf(n))) {
			t.Errorf("%d leaves: they were kept", n)
		}
		for i := range n {
			if d, _ := m.Leaf(i); d != leafOf(i) {
				t.Errorf("%d leaves: Leaf %d was kept", n, i)
			}
		}
	}
}

// What holds everywhere: trees are apart, and answer the same again.
func TestTreesAreApart(t *testing.T) {
	a, b := plant(t, leavesOf(3)...), plant(t, alike(9)...)
	for range 2 {
		if root(t, a) != rootOf(leavesOf(3)) || root(t, b) != rootOf(alike(9)) || a.Len() != 3 || b.Len() != 9 {
			t.Error("another tree's answers")
		}
	}
}
