package annals_test

import (
	"testing"

	"witness/annals"
	"witness/api"
)

// noClash holds that there are no twins.
func noClash(t *testing.T, what string, h api.Head, i uint64, l api.Leaf, path []api.Sum, m api.Leaf, other []api.Sum, want api.Errno) {
	t.Helper()
	twins, e := annals.Clash(h, i, l, path, m, other)
	if twins.One != nil || twins.Two != nil || e != want {
		t.Errorf("13.8: %s: %x, %x, %d, want %d", what, twins.One, twins.Two, e, want)
	}
}

// TestClashOfOneLeaf: twice the same.
func TestClashOfOneLeaf(t *testing.T) {
	l := leavesOf(33)
	for _, size := range []uint64{1, 2, 3, 5, 8, 13, 32, 33} {
		h := headOf(l[:size])
		for i := range size {
			path := pathTo(labelsOf(l), 0, size, i)
			noClash(t, "one leaf twice", h, i, l[i], path, l[i], path, api.ErrHonest)
		}
	}
	x := wide(t).sparse(last+1, 5)
	path := pathTo(x.over, 0, last+1, 5)
	noClash(t, "one leaf of great annals twice", x.head(last+1), 5, leafOf(5), path, leafOf(5), path, api.ErrHonest)
}

// ways are a leaf and its path, right and wrong, with what Included answers.
func ways(n *noise, l []api.Leaf, i uint64) []struct {
	leaf api.Leaf
	path []api.Sum
	e    api.Errno
} {
	path := pathTo(labelsOf(l), 0, uint64(len(l)), i)
	other := l[i]
	other.Label[7]++
	another := l[i]
	another.Version++
	return []struct {
		leaf api.Leaf
		path []api.Sum
		e    api.Errno
	}{
		{l[i], path, api.OK},
		{another, path, api.ErrLeaf},
		{another, nil, api.ErrLeaf},
		{l[i], path[1:], api.ErrPath},
		{other, append(n.sums(1), path...), api.ErrPath},
		{other, path, api.ErrHead},
		{l[i], n.sums(len(path)), api.ErrHead},
	}
}

// TestClashOrder: what is wrong with the first way goes ahead of what is wrong with the second, and both ahead of ErrHonest.
func TestClashOrder(t *testing.T) {
	n := &noise{x: 15}
	l := leavesOf(13)
	h := headOf(l)
	for i := range uint64(13) {
		for _, one := range ways(n, l, i) {
			answers(t, "13.6: Included", annals.Included(h, i, one.leaf, one.path), one.e)
			for _, two := range ways(n, l, i) {
				want := one.e
				if want == api.OK {
					want = two.e
				}
				if want == api.OK {
					want = api.ErrHonest
				}
				noClash(t, "two ways", h, i, one.leaf, one.path, two.leaf, two.path, want)
			}
			noClash(t, "no such leaf", h, 13, one.leaf, one.path, one.leaf, one.path, api.ErrLeaf)
			noClash(t, "too large", api.Head{Size: last + 2, Label: h.Label}, i, one.leaf, one.path, one.leaf, one.path, api.ErrLeaf)
			noClash(t, "no leaves", api.Head{Label: h.Label}, i, one.leaf, one.path, one.leaf, one.path, api.ErrLeaf)
		}
	}
}
