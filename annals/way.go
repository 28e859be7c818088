package annals

import (
	"math/bits"

	"witness/api"
)

const mostLeaves = api.MaxNumber + 1 // the versions from 0 to MaxNumber have one each

// step is one of a way down from the top of the tree over all leaves. A path has one label for each step of its way, that of the last step first.
type step uint8

const (
	toFirst  step = iota // into the first leaves, up to a fork's cut; the label is the one over the others
	toOthers             // into the others; the label is the one over the first
	own                  // nowhere: the label is the one over the leaves at which one is
)

// cut is how many of n leaves, n above 1, lie on the left of their fork: the greatest power of 2 that is less than n.
func cut(n uint64) uint64 { return 1 << (bits.Len64(n-1) - 1) }

// down is the step from the fork over n leaves, n above 1, toward the leaf i; and which leaf it is then, of how many.
func down(i, n uint64) (step, uint64, uint64) {
	k := cut(n)
	if i < k {
		return toFirst, i, k
	}
	return toOthers, i - k, n - k
}

// leafWay is the way to the leaf i of n, i below n.
func leafWay(i, n uint64) []step {
	var way []step
	for n > 1 {
		var s step
		s, i, n = down(i, n)
		way = append(way, s)
	}
	return way
}

// growthWay is the way from all n leaves to the last part that the first m of them, m at most n, have in common with them: toward the leaf m-1, and no further than that part.
func growthWay(m, n uint64) []step {
	if m == 0 {
		return nil
	}
	var way []step
	whole := true // the part is all m leaves, whose label is known to whoever asks
	for last := m - 1; last+1 < n; {
		var s step
		s, last, n = down(last, n)
		way = append(way, s)
		whole = whole && s == toFirst
	}
	if !whole {
		way = append(way, own)
	}
	return way
}
