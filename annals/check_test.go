package annals_test

import (
	"fmt"
	"slices"
	"testing"

	"witness/annals"
	"witness/api"
)

// bent are paths that are another one's with something changed; labels are changed at one of so many places.
func bent(n *noise, path []api.Sum, every int) map[string][]api.Sum {
	l := map[string][]api.Sum{
		"one more behind": append(slices.Clone(path), n.sum()),
		"one more ahead":  append(n.sums(1), path...),
		"another length":  n.sums(int(n.below(70))),
		"very long":       make([]api.Sum, 3000),
		"none":            nil,
	}
	for i := 0; i < len(path); i += every {
		other := slices.Clone(path)
		other[i][n.below(32)] ^= 1 << n.below(8)
		l[fmt.Sprintf("another label %d", i)] = other
		l[fmt.Sprintf("without label %d", i)] = slices.Delete(slices.Clone(path), i, i+1)
		l[fmt.Sprintf("label %d twice", i)] = slices.Insert(slices.Clone(path), i, path[i])
		other, j := slices.Clone(path), n.below(uint64(len(path)))
		other[i], other[j] = other[j], other[i]
		l[fmt.Sprintf("labels %d and %d exchanged", i, j)] = other
	}
	back := slices.Clone(path)
	slices.Reverse(back)
	l["from the other end"] = back
	return l
}

// answersAll holds that the errors were told that a test means to meet.
func answersAll(t *testing.T, what string, met map[api.Errno]int, want ...api.Errno) {
	t.Helper()
	for _, e := range want {
		if met[e] == 0 {
			t.Errorf("%s: %d was never the answer: %v", what, e, met)
		}
	}
}

func TestIncluded(t *testing.T) {
	t.Parallel()
	n := &noise{x: 10}
	met := map[api.Errno]int{}
	hold := func(what string, h api.Head, i uint64, l api.Leaf, path []api.Sum) {
		t.Helper()
		included(t, what, h, i, l, path)
		met[shows(h, i, l, path)]++
	}
	l := leavesOf(70)
	over := labelsOf(l)
	for _, size := range []int{1, 2, 3, 4, 5, 6, 7, 8, 9, 11, 15, 16, 17, 23, 31, 32, 33, 63, 64, 65} {
		many := uint64(size)
		h := headOf(l[:size])
		for i := range many {
			path := pathTo(over, 0, many, i)
			if e := annals.Included(h, i, l[i], path); e != api.OK {
				t.Errorf("13.6: leaf %d of %d: %d", i, size, e)
			}
			for what, other := range bent(n, path, 1) {
				hold(what, h, i, l[i], other)
			}
			for j := range many {
				hold("another leaf's path", h, i, l[i], pathTo(over, 0, many, j))
				hold("another place", h, j, l[i], path)
				moved := l[i]
				moved.Version = j
				hold("another place, with its version", h, j, moved, path)
				moved = l[j]
				moved.Version = i
				hold("another leaf", h, i, moved, path)
			}
			for j := range uint64(70) {
				hold("another size", api.Head{Size: j, Label: h.Label}, i, l[i], path)
				if i < j {
					hold("another size's path", h, i, l[i], pathTo(over, 0, j, i))
				}
				hold("another head", headOf(l[:j]), i, l[i], path)
			}
			other := l[i]
			other.Label[n.below(32)] ^= 1 << n.below(8)
			hold("a leaf with another label", h, i, other, path)
			wrong := h
			wrong.Label[n.below(32)] ^= 1 << n.below(8)
			hold("a head with another label", wrong, i, l[i], path)
		}
	}
	answersAll(t, "13.6: Included", met, api.OK, api.ErrLeaf, api.ErrPath, api.ErrHead)
}

// TestIncludedInSidesExchanged: the leaf lies on one side of each fork.
func TestIncludedInSidesExchanged(t *testing.T) {
	l := leavesOf(2)
	for i, leaf := range l {
		other := leafSum(l[1-i])
		h := api.Head{Size: 2, Label: forkSum(leafSum(leaf), other)}
		if i == 0 {
			h.Label = forkSum(other, leafSum(leaf))
		}
		answers(t, "13.6: sides exchanged", annals.Included(h, uint64(i), leaf, []api.Sum{other}), api.ErrHead)
	}
}

// TestIncludedOrder: where several errors apply.
func TestIncludedOrder(t *testing.T) {
	n := &noise{x: 11}
	l := leavesOf(7)
	h := headOf(l)
	path := pathTo(labelsOf(l), 0, 7, 4)
	for _, c := range []struct {
		what string
		h    api.Head
		i    uint64
		l    api.Leaf
		path []api.Sum
		want api.Errno
	}{
		{"no such leaf, another version, no path, another head", api.Head{Size: 7}, 7, leafOf(6), nil, api.ErrLeaf},
		{"no such leaf, no path", h, 7, leafOf(7), nil, api.ErrLeaf},
		{"no leaf at all", api.Head{Label: sumOf([]byte{0x15})}, 0, leafOf(0), nil, api.ErrLeaf},
		{"another version, no path", h, 4, leafOf(5), nil, api.ErrLeaf},
		{"another version, another head", api.Head{Size: 7}, 4, leafOf(5), path, api.ErrLeaf},
		{"too large", api.Head{Size: last + 2}, 4, leafOf(4), path, api.ErrLeaf},
		{"too large, the leaf too", api.Head{Size: 1<<64 - 1}, last + 2, leafOf(last + 2), path, api.ErrLeaf},
		{"as large as can be", api.Head{Size: 1<<64 - 1}, 1<<64 - 2, leafOf(1<<64 - 2), nil, api.ErrLeaf},
		{"a long path, another head", api.Head{Size: 7}, 4, l[4], append(n.sums(1), path...), api.ErrPath},
		{"a short path, another head", api.Head{Size: 7}, 4, l[4], path[1:], api.ErrPath},
		{"another head", api.Head{Size: 7}, 4, l[4], path, api.ErrHead},
		{"all is right", h, 4, l[4], path, api.OK},
		{"the greatest size", api.Head{Size: last + 1}, last, leafOf(last), path[:1], api.ErrHead},
		{"the greatest size, no path", api.Head{Size: last + 1}, last, leafOf(last), nil, api.ErrPath},
		{"the greatest size, its first leaf", api.Head{Size: last + 1}, 0, leafOf(0), n.sums(63), api.ErrHead},
		{"the greatest size, its first leaf, one more", api.Head{Size: last + 1}, 0, leafOf(0), n.sums(64), api.ErrPath},
		{"the greatest size, its first leaf, one less", api.Head{Size: last + 1}, 0, leafOf(0), n.sums(62), api.ErrPath},
		{"behind the greatest size", api.Head{Size: last + 1}, last + 1, leafOf(last + 1), n.sums(1), api.ErrLeaf},
	} {
		answers(t, "13.6: "+c.what, annals.Included(c.h, c.i, c.l, c.path), c.want)
		included(t, c.what, c.h, c.i, c.l, c.path)
	}
}

func TestExtends(t *testing.T) {
	t.Parallel()
	n := &noise{x: 12}
	met := map[api.Errno]int{}
	hold := func(what string, old, now api.Head, path []api.Sum) {
		t.Helper()
		extends(t, what, old, now, path)
		met[becomes(old, now, path)]++
	}
	l := leavesOf(70)
	over := labelsOf(l)
	for _, size := range []int{0, 1, 2, 3, 4, 5, 6, 7, 8, 9, 11, 15, 16, 17, 23, 31, 32, 33, 63, 64, 65} {
		many := uint64(size)
		now := headOf(l[:size])
		for m := range many + 1 {
			old := headOf(l[:m])
			path := growthTo(over, m, many)
			if e := annals.Extends(old, now, path); e != api.OK {
				t.Errorf("13.7: from %d to %d: %d", m, size, e)
			}
			for what, other := range bent(n, path, 1) {
				hold(what, old, now, other)
			}
			hold("the other way round", now, old, path)
			for j := range uint64(70) {
				hold("another older size", api.Head{Size: j, Label: old.Label}, now, path)
				hold("another older head", headOf(l[:j]), now, path)
				hold("another newer size", old, api.Head{Size: j, Label: now.Label}, path)
				hold("another newer head", old, headOf(l[:j]), path)
				if j <= many {
					hold("another older size's path", old, now, growthTo(over, j, many))
				}
				if m <= j {
					hold("another newer size's path", old, now, growthTo(over, m, j))
				}
			}
			wrong := old
			wrong.Label[n.below(32)] ^= 1 << n.below(8)
			hold("another older label", wrong, now, path)
			hold("the same of both", wrong, api.Head{Size: many, Label: wrong.Label}, path)
			wrong = now
			wrong.Label[n.below(32)] ^= 1 << n.below(8)
			hold("another newer label", old, wrong, path)
			hold("the older label as the newer one", old, api.Head{Size: many, Label: old.Label}, path)
			hold("the newer label as the older one", api.Head{Size: m, Label: now.Label}, now, path)
		}
	}
	answersAll(t, "13.7: Extends", met, api.OK, api.ErrLeaf, api.ErrPath, api.ErrHead)
}

// TestExtendsBoth: the path gives both labels, and both are held against the heads.
func TestExtendsBoth(t *testing.T) {
	l, other := leavesOf(64), leavesOf(64)
	for i := range other {
		other[i].Label[0] ^= 1
	}
	for n := uint64(1); n <= 64; n++ {
		for m := uint64(1); m <= n; m++ {
			path := growthTo(labelsOf(l), m, n)
			old, now := headOf(l[:m]), headOf(l[:n])
			answers(t, "13.7: of other leaves", annals.Extends(headOf(other[:m]), now, path), api.ErrHead)
			answers(t, "13.7: to other leaves", annals.Extends(old, headOf(other[:n]), path), api.ErrHead)
			if m < n {
				answers(t, "13.7: other leaves' path", annals.Extends(headOf(other[:m]), headOf(other[:n]), path), api.ErrHead)
				split := append(slices.Clone(l[:m]), other[m:n]...)
				answers(t, "13.7: they part behind the older size", annals.Extends(old, headOf(split), path), api.ErrHead)
				answers(t, "13.7: their own path", annals.Extends(old, headOf(split), growthTo(labelsOf(split), m, n)), api.OK)
				split = append(slices.Clone(other[:m]), l[m:n]...)
				answers(t, "13.7: they part ahead of it", annals.Extends(old, headOf(split), growthTo(labelsOf(split), m, n)), api.ErrHead)
			}
		}
	}
}

// TestExtendsOrder: where several errors apply, and the ends.
func TestExtendsOrder(t *testing.T) {
	n := &noise{x: 13}
	l := leavesOf(7)
	over := labelsOf(l)
	none := api.Head{Label: sumOf([]byte{0x15})}
	three, seven := headOf(l[:3]), headOf(l)
	for _, c := range []struct {
		what     string
		old, now api.Head
		path     []api.Sum
		want     api.Errno
	}{
		{"back, no path, other labels", api.Head{Size: 7}, api.Head{Size: 3}, nil, api.ErrLeaf},
		{"back to none", seven, none, nil, api.ErrLeaf},
		{"too large", api.Head{Size: 3}, api.Head{Size: last + 2}, nil, api.ErrLeaf},
		{"both too large", api.Head{Size: last + 2}, api.Head{Size: last + 2}, nil, api.ErrLeaf},
		{"both as large as can be", api.Head{Size: 1<<64 - 1}, api.Head{Size: 1<<64 - 1}, nil, api.ErrLeaf},
		{"from none, too large", none, api.Head{Size: last + 2}, nil, api.ErrLeaf},
		{"from none, too large, a path", none, api.Head{Size: 1 << 63}, n.sums(1), api.ErrLeaf},
		{"from none, a path, another label", api.Head{}, seven, n.sums(1), api.ErrPath},
		{"from none, a path", none, seven, n.sums(1), api.ErrPath},
		{"from none, another label", api.Head{}, seven, nil, api.ErrHead},
		{"from none with the newer label", api.Head{Label: seven.Label}, seven, nil, api.ErrHead},
		{"from none", none, seven, nil, api.OK},
		{"from none to any label", none, api.Head{Size: 7, Label: n.sum()}, nil, api.OK},
		{"from none to the greatest size", none, api.Head{Size: last + 1}, nil, api.OK},
		{"from none to none", none, none, nil, api.OK},
		{"from none to none, an empty path", none, none, []api.Sum{}, api.OK},
		{"from none to none, a path", none, none, n.sums(1), api.ErrPath},
		{"from none to none with another label", none, api.Head{Label: n.sum()}, nil, api.ErrHead},
		{"from none with another label to none", api.Head{Label: n.sum()}, none, nil, api.ErrHead},
		{"from none to none, both with another label", api.Head{Label: api.Sum{5}}, api.Head{Label: api.Sum{5}}, nil, api.ErrHead},
		{"to itself", seven, seven, nil, api.OK},
		{"to itself with any label", api.Head{Size: 7, Label: api.Sum{5}}, api.Head{Size: 7, Label: api.Sum{5}}, nil, api.OK},
		{"to itself, a path", seven, seven, n.sums(1), api.ErrPath},
		{"to itself, a path, another label", seven, api.Head{Size: 7}, n.sums(1), api.ErrPath},
		{"to another one of its size", seven, api.Head{Size: 7}, nil, api.ErrHead},
		{"the greatest size to itself", api.Head{Size: last + 1}, api.Head{Size: last + 1}, nil, api.OK},
		{"no path, other labels", api.Head{Size: 3}, api.Head{Size: 7}, nil, api.ErrPath},
		{"a short path", three, seven, growthTo(over, 3, 7)[1:], api.ErrPath},
		{"a long path", three, seven, append(growthTo(over, 3, 7), n.sum()), api.ErrPath},
		{"another older label", api.Head{Size: 3}, seven, growthTo(over, 3, 7), api.ErrHead},
		{"another newer label", three, api.Head{Size: 7}, growthTo(over, 3, 7), api.ErrHead},
		{"all is right", three, seven, growthTo(over, 3, 7), api.OK},
		{"the longest path, other labels", api.Head{Size: 3}, api.Head{Size: last + 1}, n.sums(64), api.ErrHead},
		{"the longest path, one more", api.Head{Size: 3}, api.Head{Size: last + 1}, n.sums(65), api.ErrPath},
		{"the longest path, one less", api.Head{Size: 3}, api.Head{Size: last + 1}, n.sums(63), api.ErrPath},
		{"a step before the last", api.Head{Size: last}, api.Head{Size: last + 1}, n.sums(1), api.ErrHead},
		{"a step before the last, no path", api.Head{Size: last}, api.Head{Size: last + 1}, nil, api.ErrPath},
		{"a step before the last, a short path", api.Head{Size: last - 1}, api.Head{Size: last}, n.sums(62), api.ErrPath},
		{"two steps before the last", api.Head{Size: last - 1}, api.Head{Size: last + 1}, n.sums(64), api.ErrHead},
	} {
		answers(t, "13.7: "+c.what, annals.Extends(c.old, c.now, c.path), c.want)
		extends(t, c.what, c.old, c.now, c.path)
	}
}

// TestChecksOfGreatAnnals: by bits up to the last ones.
func TestChecksOfGreatAnnals(t *testing.T) {
	t.Parallel()
	n := &noise{x: 14}
	for _, size := range greatSizes(n) {
		near := placesIn(n, size)
		x := newStore(t, 4098, 512, 64).sparse(size, near...)
		h := x.head(size)
		for _, i := range near {
			path := pathTo(x.over, 0, size, i)
			answers(t, "13.6: great annals", annals.Included(h, i, leafOf(i), path), api.OK)
			for what, other := range bent(n, path, 9) {
				included(t, what, h, i, leafOf(i), other)
			}
			other := leafOf(i)
			other.Label[3]++
			included(t, "another leaf", h, i, other, path)
			old := x.head(i + 1)
			path = growthTo(x.over, i+1, size)
			answers(t, "13.7: great annals", annals.Extends(old, h, path), api.OK)
			for what, other := range bent(n, path, 9) {
				extends(t, what, old, h, other)
			}
			old.Label[3]++
			extends(t, "another older label", old, h, path)
			extends(t, "another older size", x.head(i), h, path)
		}
	}
}
