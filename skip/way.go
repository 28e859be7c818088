package skip

import (
	"bytes"

	"witness/api"
	"witness/blobs"
	"witness/trees"
)

// step is a tower that a way comes through.
type step struct {
	tower api.Tower
	top   int // its highest level
	next  int // the kid to which the way goes on; where it ends: the number of kids
}

func less(a, b []byte) bool { return bytes.Compare(a, b) < 0 }

// wayOf is the way of a key in a tree.
func wayOf(b *blobs.Blobs, t api.Tree, key []byte) ([]step, api.Errno) {
	if len(key) > api.MaxKey {
		return nil, api.ErrLimit
	}
	head, errno := trees.Head(b, t)
	if errno != api.OK {
		return nil, errno
	}
	return descend(b, step{tower: head, top: api.MaxHeight - 1}, func(k api.Kid) bool { return !less(key, k.Key) })
}

// descend is the way from a tower down, again and again to the first kid, from the highest level down, that can be gone to.
func descend(b *blobs.Blobs, from step, goes func(k api.Kid) bool) ([]step, api.Errno) {
	way := []step{from}
down:
	for {
		at := &way[len(way)-1]
		for at.next = 0; ; at.next++ {
			if at.next == len(at.tower.Kids) {
				break down
			}
			if goes(at.tower.Kids[at.next]) {
				break
			}
		}
		kid := at.tower.Kids[at.next]
		tower, errno := trees.Kid(b, kid)
		if errno != api.OK {
			return nil, errno
		}
		way = append(way, step{tower: tower, top: kid.Level})
	}
	return way, api.OK
}

func lastOf(way []step) api.Tower { return way[len(way)-1].tower }

// endsAt tells whether a way ends at the key's own tower; the head is none, of the empty key neither.
func endsAt(way []step, key []byte) bool {
	last := lastOf(way)
	return !last.Head && bytes.Equal(last.Key, key)
}
