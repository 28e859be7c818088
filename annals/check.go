package annals

import (
	"bytes"
	"slices"

	"witness/api"
	"witness/digest"
)

// Included tells whether a path shows that a leaf is the i-th one.
func Included(h api.Head, i uint64, l api.Leaf, path []api.Sum) api.Errno {
	if i >= h.Size || h.Size > mostLeaves || l.Version != i {
		return api.ErrLeaf
	}
	way := leafWay(i, h.Size)
	if len(path) != len(way) {
		return api.ErrPath
	}
	texts := textsUp(way, l, path)
	if digest.Of(texts[len(way)]) != h.Label {
		return api.ErrHead
	}
	return api.OK
}

// Extends tells whether a path shows that the annals with one head became those with another by growing.
func Extends(old, now api.Head, path []api.Sum) api.Errno {
	if old.Size > now.Size || now.Size > mostLeaves {
		return api.ErrLeaf
	}
	way := growthWay(old.Size, now.Size)
	switch {
	case len(path) != len(way):
		return api.ErrPath
	case old.Size == 0 && old.Label != noLeaves():
		return api.ErrHead
	case old.Size == 0 && now.Size > 0: // whatever there is has grown from nothing
		return api.OK
	}
	before, after := grown(way, old.Label, path)
	if before != old.Label || after != now.Label {
		return api.ErrHead
	}
	return api.OK
}

// Clash is the twins that two paths give which show two unlike leaves as the i-th one.
func Clash(h api.Head, i uint64, l api.Leaf, path []api.Sum, m api.Leaf, other []api.Sum) (api.Twins, api.Errno) {
	if errno := Included(h, i, l, path); errno != api.OK {
		return api.Twins{}, errno
	}
	if errno := Included(h, i, m, other); errno != api.OK {
		return api.Twins{}, errno
	}
	if l == m {
		return api.Twins{}, api.ErrHonest
	}
	way := leafWay(i, h.Size)
	return parted(textsUp(way, l, path), textsUp(way, m, other)), api.OK
}

// textsUp is what is hashed where one goes from a leaf up its way with a path of as many labels, the leaf's text first.
func textsUp(way []step, l api.Leaf, path []api.Sum) [][]byte {
	texts := [][]byte{LeafText(l)}
	for j, s := range slices.Backward(way) {
		done := len(way) - 1 - j
		below, beside := digest.Of(texts[done]), path[done]
		if s == toFirst {
			texts = append(texts, ForkText(below, beside))
		} else {
			texts = append(texts, ForkText(beside, below))
		}
	}
	return texts
}

// grown is the label over the first leaves, and the one over all, which one gets by going up a way with a path of as many labels; part is the label at the way's end, unless it stands in the path.
func grown(way []step, part api.Sum, path []api.Sum) (before, after api.Sum) {
	before, after = part, part
	for j, s := range slices.Backward(way) {
		beside := path[len(way)-1-j]
		switch s {
		case own:
			before, after = beside, beside
		case toFirst:
			after = forkLabel(after, beside)
		case toOthers:
			before, after = forkLabel(beside, before), forkLabel(beside, after)
		}
	}
	return before, after
}

// parted is where two lists of texts from an unlike leaf to one top part, seen from the top.
func parted(one, two [][]byte) api.Twins {
	at := len(one) - 1
	for at > 0 && bytes.Equal(one[at], two[at]) {
		at--
	}
	return api.Twins{One: one[at], Two: two[at]}
}
