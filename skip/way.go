package skip

import (
	"bytes"

	"witness/api"
	"witness/blobs"
	"witness/digest"
	"witness/node"
)

// step is a tower that a way comes through.
type step struct {
	tower api.Tower
	top   int // its highest level
	next  int // the kid to which the way goes on; where it ends: the number of kids
}

func less(a, b []byte) bool { return bytes.Compare(a, b) < 0 }

// refusal is what a call answers if something could not be loaded.
func refusal(errno api.Errno) api.Errno {
	switch errno {
	case api.OK, api.ErrPower:
		return errno
	}
	return api.ErrTree
}

// loadHead is the head of a tree that fits.
func loadHead(b *blobs.Blobs, t api.Tree) (api.Tower, api.Errno) {
	head, errno := node.Load(b, t.Addr)
	if errno != api.OK {
		return api.Tower{}, refusal(errno)
	}
	if !head.Head || treeOf(head, t.Addr) != t {
		return api.Tower{}, api.ErrTree
	}
	return head, api.OK
}

// treeOf is the tree of a head that lies at an address.
func treeOf(head api.Tower, addr api.Addr) api.Tree {
	count := node.Count(head)
	return api.Tree{Addr: addr, Count: count, Label: digest.Of(node.RootText(count, node.Label(head)))}
}

// loadKid is the tower of a kid that fits.
func loadKid(b *blobs.Blobs, k api.Kid) (api.Tower, api.Errno) {
	t, errno := node.Load(b, k.Addr)
	if errno != api.OK {
		return api.Tower{}, refusal(errno)
	}
	if t.Head || !bytes.Equal(t.Key, k.Key) || node.Count(t) != k.Count || node.Label(t) != k.Label {
		return api.Tower{}, api.ErrTree
	}
	return t, api.OK
}

// loadValue is a tower's value.
func loadValue(b *blobs.Blobs, t api.Tower) ([]byte, api.Errno) {
	value, errno := b.Get(api.KindValue, t.Value)
	return value, refusal(errno)
}

// hasValue tells whether a tower's value is there and is this one.
func hasValue(b *blobs.Blobs, t api.Tower, value []byte) bool {
	if t.Value.Sum != blobs.Digest(api.KindValue, value) {
		return false
	}
	old, errno := loadValue(b, t)
	return errno == api.OK && bytes.Equal(old, value) // two values may have one digest
}

// wayOf is the way of a key in a tree.
func wayOf(b *blobs.Blobs, t api.Tree, key []byte) ([]step, api.Errno) {
	if len(key) > api.MaxKey {
		return nil, api.ErrLimit
	}
	head, errno := loadHead(b, t)
	if errno != api.OK {
		return nil, errno
	}
	return descend(b, step{tower: head, top: api.MaxHeight - 1}, func(k api.Kid) bool { return !less(key, k.Key) })
}

// descend is the way from a tower down, again and again to the first kid, from the highest level down, that can be gone to.
func descend(b *blobs.Blobs, from step, goes func(k api.Kid) bool) ([]step, api.Errno) {
	way := []step{from}
down:
	for {
		at := &way[len(way)-1]
		for at.next = 0; ; at.next++ {
			if at.next == len(at.tower.Kids) {
				break down
			}
			if goes(at.tower.Kids[at.next]) {
				break
			}
		}
		kid := at.tower.Kids[at.next]
		tower, errno := loadKid(b, kid)
		if errno != api.OK {
			return nil, errno
		}
		way = append(way, step{tower: tower, top: kid.Level})
	}
	return way, api.OK
}

func lastOf(way []step) api.Tower { return way[len(way)-1].tower }

// endsAt tells whether a way ends at the key's own tower; the head is none, of the empty key neither.
func endsAt(way []step, key []byte) bool {
	last := lastOf(way)
	return !last.Head && bytes.Equal(last.Key, key)
}
