package skip

import (
	"slices"

	"witness/api"
	"witness/blobs"
	"witness/node"
	"witness/trees"
)

// kids are those of a step's tower; next hangs in the place of the one to which the way goes on, unless it is nil.
func (s step) kids(next trees.Tower) []trees.Tower {
	kids := make([]trees.Tower, len(s.tower.Kids))
	for i, k := range s.tower.Kids {
		kids[i] = trees.Stored{Kid: k}
	}
	if next != nil {
		kids[s.next] = next
	}
	return kids
}

// with is a step's tower with other kids.
func (s step) with(kids []trees.Tower) *trees.Made {
	return &trees.Made{Own: s.tower, Top: s.top, Kids: kids}
}

// headOver is the head above some steps, where low hangs in the place of the tower to which the last one goes on.
func headOver(way []step, low *trees.Made) *trees.Made {
	for _, s := range slices.Backward(way) {
		low = s.with(s.kids(low))
	}
	return low
}

// replaced is the head where the key at the way's end has another value.
func replaced(way []step, value []byte) *trees.Made {
	last := len(way) - 1
	own := way[last].with(way[last].kids(nil))
	own.Fresh, own.Value = true, value
	return headOver(way[:last], own)
}

// inserted is the head where a key that is not there stands behind the way's end.
func inserted(way []step, key, value []byte) *trees.Made {
	own := &trees.Made{Own: api.Tower{Key: key}, Top: node.Height(key) - 1, Fresh: true, Value: value}
	var next trees.Tower
	at := len(way) - 1
	for ; way[at].top < own.Top; at-- { // none that is lower sees anything behind the key any more
		s := way[at]
		kids := s.kids(next)
		own.Kids = slices.Concat(kids[:s.next], own.Kids)
		if s.next > 0 || next != nil {
			next = s.with(kids[s.next:])
		}
	}
	parent := way[at]
	kids := parent.kids(next)
	over := trees.UpTo(kids[:parent.next], own.Top) // what is higher than the key is seen over it
	own.Kids = slices.Concat(kids[over:parent.next], own.Kids)
	kids = slices.Concat(kids[:over], []trees.Tower{own}, kids[parent.next:])
	return headOver(way[:at], parent.with(kids))
}

// removed is the head where the key at the way's end is gone; ahead is the way from the key's parent to the greatest key less than it.
func removed(way, ahead []step) *trees.Made {
	last := len(way) - 1
	left := way[last].kids(nil) // each goes to the last tower ahead of the key that is high enough
	var next trees.Tower
	for _, s := range slices.Backward(ahead[1:]) {
		over := trees.UpTo(left, s.top)
		if over < len(left) || next != nil {
			next = s.with(slices.Concat(left[over:], s.kids(next)))
		}
		left = left[:over]
	}
	parent := way[last-1]
	kids := ahead[0].kids(next)
	kids = slices.Concat(kids[:parent.next], left, kids[parent.next+1:])
	return headOver(way[:last-1], parent.with(kids))
}

// saveTree is the tree of a head that is being made. What cannot stand comes of a tree t alone that is not whole: t stays.
func saveTree(b *blobs.Blobs, t api.Tree, head *trees.Made) (api.Tree, api.Errno) {
	tree, errno := trees.Save(b, head)
	switch errno {
	case api.ErrTower, api.ErrKids:
		return t, api.OK
	}
	return tree, errno
}
