package trees

import (
	"slices"

	"witness/api"
	"witness/blobs"
	"witness/node"
)

// Tower is one on its way into a tree.
type Tower interface {
	Level() int // the one at which it hangs
}

// Stored is a tower that lies in the blobs, with all that hangs at it.
type Stored struct{ Kid api.Kid }

// Level is the kid's.
func (s Stored) Level() int { return s.Kid.Level }

// Made is a tower that is not saved yet.
type Made struct {
	Own   api.Tower // its kids are looked for in Kids alone
	Top   int
	Fresh bool // its value is not saved yet either
	Value []byte
	Kids  []Tower // from the highest level down
}

// Level is the tower's highest one.
func (m *Made) Level() int { return m.Top }

// UpTo is the first of some kids that hangs at that level or below it; their number, if there is none.
func UpTo(kids []Tower, level int) int {
	i := slices.IndexFunc(kids, func(k Tower) bool { return k.Level() <= level })
	if i < 0 {
		return len(kids)
	}
	return i
}

// Save is the tree of a head that is being made: ErrTower or ErrKids, if it cannot stand.
func Save(b *blobs.Blobs, head *Made) (api.Tree, api.Errno) {
	tower, addr, errno := save(b, head)
	if errno != api.OK {
		return api.Tree{}, errno
	}
	return Of(tower, addr), api.OK
}

// save puts what is not there yet: all that hangs at a tower, its value, then the tower; so none is there without what hangs at it.
func save(b *blobs.Blobs, m *Made) (api.Tower, api.Addr, api.Errno) {
	t := m.Own
	var errno api.Errno
	if t.Kids, errno = saveKids(b, m.Kids); errno != api.OK {
		return api.Tower{}, api.Addr{}, errno
	}
	if m.Fresh {
		if t.Value, errno = b.Put(api.KindValue, m.Value); errno != api.OK {
			return api.Tower{}, api.Addr{}, errno
		}
	}
	addr, errno := node.Save(b, t)
	return t, addr, errno
}

// saveKids takes over those that are stored, and saves the others, from the lowest level up.
func saveKids(b *blobs.Blobs, l []Tower) ([]api.Kid, api.Errno) {
	kids := make([]api.Kid, len(l))
	for i, k := range slices.Backward(l) {
		switch k := k.(type) {
		case Stored:
			kids[i] = k.Kid
		case *Made:
			t, addr, errno := save(b, k)
			if errno != api.OK {
				return nil, errno
			}
			kids[i] = api.Kid{Level: k.Top, Key: t.Key, Count: node.Count(t), Addr: addr, Label: node.Label(t)}
		}
	}
	return kids, api.OK
}
