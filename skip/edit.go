package skip

import (
	"slices"

	"witness/api"
	"witness/blobs"
	"witness/node"
)

// tower is one on its way into a tree.
type tower interface {
	level() int // the one at which it hangs
}

// stored is a tower that lies in the blobs, with all that hangs at it.
type stored struct{ kid api.Kid }

func (s stored) level() int { return s.kid.Level }

// made is a tower that is not saved yet.
type made struct {
	own   api.Tower // its kids are looked for in kids alone
	top   int
	fresh bool // its value is not saved yet either
	value []byte
	kids  []tower // from the highest level down
}

func (m *made) level() int { return m.top }

// kids are those of a step's tower; next hangs in the place of the one to which the way goes on, unless it is nil.
func (s step) kids(next tower) []tower {
	kids := make([]tower, len(s.tower.Kids))
	for i, k := range s.tower.Kids {
		kids[i] = stored{k}
	}
	if next != nil {
		kids[s.next] = next
	}
	return kids
}

// with is a step's tower with other kids.
func (s step) with(kids []tower) *made {
	return &made{own: s.tower, top: s.top, kids: kids}
}

// upTo is the first of some kids that hangs at that level or below it; their number, if there is none.
func upTo(kids []tower, level int) int {
	i := slices.IndexFunc(kids, func(k tower) bool { return k.level() <= level })
	if i < 0 {
		return len(kids)
	}
	return i
}

// headOver is the head above some steps, where low hangs in the place of the tower to which the last one goes on.
func headOver(way []step, low *made) *made {
	for _, s := range slices.Backward(way) {
		low = s.with(s.kids(low))
	}
	return low
}

// replaced is the head where the key at the way's end has another value.
func replaced(way []step, value []byte) *made {
	last := len(way) - 1
	own := way[last].with(way[last].kids(nil))
	own.fresh, own.value = true, value
	return headOver(way[:last], own)
}

// inserted is the head where a key that is not there stands behind the way's end.
func inserted(way []step, key, value []byte) *made {
	own := &made{own: api.Tower{Key: key}, top: node.Height(key) - 1, fresh: true, value: value}
	var next tower
	at := len(way) - 1
	for ; way[at].top < own.top; at-- { // none that is lower sees anything behind the key any more
		s := way[at]
		kids := s.kids(next)
		own.kids = slices.Concat(kids[:s.next], own.kids)
		if s.next > 0 || next != nil {
			next = s.with(kids[s.next:])
		}
	}
	parent := way[at]
	kids := parent.kids(next)
	over := upTo(kids[:parent.next], own.top) // what is higher than the key is seen over it
	own.kids = slices.Concat(kids[over:parent.next], own.kids)
	kids = slices.Concat(kids[:over], []tower{own}, kids[parent.next:])
	return headOver(way[:at], parent.with(kids))
}

// removed is the head where the key at the way's end is gone; ahead is the way from the key's parent to the greatest key less than it.
func removed(way, ahead []step) *made {
	last := len(way) - 1
	left := way[last].kids(nil) // each goes to the last tower ahead of the key that is high enough
	var next tower
	for _, s := range slices.Backward(ahead[1:]) {
		over := upTo(left, s.top)
		if over < len(left) || next != nil {
			next = s.with(slices.Concat(left[over:], s.kids(next)))
		}
		left = left[:over]
	}
	parent := way[last-1]
	kids := ahead[0].kids(next)
	kids = slices.Concat(kids[:parent.next], left, kids[parent.next+1:])
	return headOver(way[:last-1], parent.with(kids))
}

// saveTree is the tree of a head that is being made. What cannot stand comes of a tree t alone that is not whole: t stays.
func saveTree(b *blobs.Blobs, t api.Tree, head *made) (api.Tree, api.Errno) {
	tower, addr, errno := save(b, head)
	switch errno {
	case api.OK:
		return treeOf(tower, addr), api.OK
	case api.ErrTower, api.ErrKids:
		return t, api.OK
	}
	return api.Tree{}, errno
}

// save puts what is not there yet: all that hangs at a tower, its value, then the tower; so none is there without what hangs at it.
func save(b *blobs.Blobs, m *made) (api.Tower, api.Addr, api.Errno) {
	t := m.own
	var errno api.Errno
	if t.Kids, errno = saveKids(b, m.kids); errno != api.OK {
		return api.Tower{}, api.Addr{}, errno
	}
	if m.fresh {
		if t.Value, errno = b.Put(api.KindValue, m.value); errno != api.OK {
			return api.Tower{}, api.Addr{}, errno
		}
	}
	addr, errno := node.Save(b, t)
	return t, addr, errno
}

// saveKids takes over those that are stored, and saves the others, from the lowest level up.
func saveKids(b *blobs.Blobs, l []tower) ([]api.Kid, api.Errno) {
	kids := make([]api.Kid, len(l))
	for i, k := range slices.Backward(l) {
		switch k := k.(type) {
		case stored:
			kids[i] = k.kid
		case *made:
			t, addr, errno := save(b, k)
			if errno != api.OK {
				return nil, errno
			}
			kids[i] = api.Kid{Level: k.top, Key: t.Key, Count: node.Count(t), Addr: addr, Label: node.Label(t)}
		}
	}
	return kids, api.OK
}
