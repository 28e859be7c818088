package sweep

import (
	"bytes"
	"slices"

	"witness/api"
	"witness/blobs"
	"witness/heaps"
	"witness/node"
	"witness/trees"
)

func tooLong(e api.Edit) bool {
	return len(e.Key) > api.MaxKey || !e.Gone && len(e.Value) > api.MaxValue
}

// together is for each key the last edit that names it, in the order of keys.
func together(l []api.Edit) []api.Edit {
	sorted := heaps.Sort(l, func(a, b api.Edit) int { return bytes.Compare(a.Key, b.Key) })
	last := sorted[:0]
	for i, e := range sorted {
		if i+1 == len(sorted) || !bytes.Equal(e.Key, sorted[i+1].Key) {
			last = append(last, e)
		}
	}
	return last
}

// batch is a tree that is put together anew, from the greatest key down: what hangs at a tower stands ahead of it then.
type batch struct {
	b     *blobs.Blobs
	edits []api.Edit    // those that are not taken yet: of keys ahead of all that is done
	done  []trees.Tower // those that are no tower's kids yet, from the highest level down
}

// piece is a part of the older tree: a tower with all that hangs at it or, once that is open, the tower alone.
type piece struct {
	kid   api.Kid
	open  bool
	tower api.Tower
}

// openedUp is some pieces, and ahead of them a tower's kids, of which the greatest key comes first.
func openedUp(pieces []piece, kids []api.Kid) []piece {
	for _, k := range slices.Backward(kids) {
		pieces = append(pieces, piece{kid: k})
	}
	return pieces
}

// rebuild goes through a tree, as far as the edits ask for it; the new head's kids are done then.
func (x *batch) rebuild(head api.Tower) api.Errno {
	pieces := openedUp(nil, head.Kids)
	for len(pieces) > 0 {
		last := len(pieces) - 1
		p := pieces[last]
		pieces = pieces[:last]
		switch {
		case p.open:
			x.settle(p)
		case x.touches(p.kid):
			tower, errno := trees.Kid(x.b, p.kid)
			if errno != api.OK {
				return errno
			}
			pieces = openedUp(append(pieces, piece{p.kid, true, tower}), tower.Kids)
		default:
			x.done = append(x.done, trees.Stored{Kid: p.kid})
		}
	}
	x.insert(0)
	return api.OK
}

// touches tells whether a tower, or one that hangs at it, is another one now: an edit is on its way there, or a kid is left to it.
func (x *batch) touches(k api.Kid) bool {
	edits, done := len(x.edits), len(x.done)
	return edits > 0 && !less(x.edits[edits-1].Key, k.Key) || done > 0 && x.done[done-1].Level() <= k.Level
}

// settle takes the edits that stand behind a tower's key or at it; the tower stays as it was, is made anew, or is gone.
func (x *batch) settle(p piece) {
	from := len(x.edits)
	for from > 0 && less(p.kid.Key, x.edits[from-1].Key) {
		from--
	}
	x.insert(from)
	m := &trees.Made{Own: p.tower, Top: p.kid.Level}
	if from > 0 && bytes.Equal(x.edits[from-1].Key, p.kid.Key) {
		e := x.edits[from-1]
		x.edits = x.edits[:from-1]
		if e.Gone {
			return // its kids are left to those ahead of it
		}
		m.Value, m.Fresh = e.Value, !trees.HasValue(x.b, p.tower, e.Value)
	}
	m.Kids = x.taken(m.Top)
	if !m.Fresh && areStored(m.Kids, p.tower.Kids) {
		x.done = append(x.done, trees.Stored{Kid: p.kid})
		return
	}
	x.done = append(x.done, m)
}

// insert takes the edits from that one on, whose keys are not there.
func (x *batch) insert(from int) {
	for _, e := range slices.Backward(x.edits[from:]) {
		if !e.Gone {
			top := node.Height(e.Key) - 1
			x.done = append(x.done, &trees.Made{Own: api.Tower{Key: e.Key}, Top: top, Fresh: true, Value: e.Value, Kids: x.taken(top)})
		}
	}
	x.edits = x.edits[:from]
}

// taken is the kids of a tower that stands ahead of all that is done. Both are cut off at their ends: what is done next is not laid over them.
func (x *batch) taken(top int) []trees.Tower {
	i := trees.UpTo(x.done, top)
	kids := x.done[i:len(x.done):len(x.done)]
	x.done = x.done[:i:i]
	return kids
}

// areStored tells whether a tower's new kids are the older ones.
func areStored(l []trees.Tower, kids []api.Kid) bool {
	return slices.EqualFunc(l, kids, func(t trees.Tower, k api.Kid) bool {
		s, ok := t.(trees.Stored)
		return ok && s.Kid.Addr == k.Addr
	})
}
