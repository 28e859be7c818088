package sweep

import (
	"bytes"
	"iter"

	"witness/api"
	"witness/blobs"
	"witness/trees"
)

// pair is a key's towers in two trees.
type pair struct {
	had, has bool
	old, now api.Tower
}

// alike tells whether the key has one value in both. (Two values that are there have unlike addresses.)
func (p pair) alike() bool { return p.had && p.has && p.old.Value == p.now.Value }

// change is the pair with its values.
func (p pair) change(b *blobs.Blobs) (api.Change, api.Errno) {
	c := api.Change{Had: p.had, Has: p.has}
	var errno api.Errno
	if p.had {
		c.Key = p.old.Key
		if c.Old, errno = trees.Value(b, p.old); errno != api.OK {
			return api.Change{}, errno
		}
	}
	if p.has {
		c.Key = p.now.Key
		if c.New, errno = trees.Value(b, p.now); errno != api.OK {
			return api.Change{}, errno
		}
	}
	return c, api.OK
}

// compareFirst tells which of two courses has the key that comes first: below 0 the first one, above 0 the second one, 0 both.
func compareFirst(c, d course) int {
	switch {
	case len(c) == 0:
		return 1
	case len(d) == 0:
		return -1
	}
	return bytes.Compare(c.first().Key, d.first().Key)
}

// pairs gives the keys of two trees, in their order, but for what hangs at one address in both; an error ends it.
func pairs(b *blobs.Blobs, from, to api.Tree) iter.Seq2[pair, api.Errno] {
	return func(yield func(pair, api.Errno) bool) {
		head, errno := trees.Head(b, from)
		old := course(head.Kids)
		if errno == api.OK {
			head, errno = trees.Head(b, to)
		}
		now := course(head.Kids)
		for errno == api.OK && len(old)+len(now) > 0 {
			order := compareFirst(old, now)
			if order == 0 && old.first().Addr == now.first().Addr {
				old, now = old.rest(), now.rest()
				continue
			}
			p := pair{had: order <= 0, has: order >= 0}
			if p.had {
				p.old, old, errno = old.opened(b)
			}
			if p.has && errno == api.OK {
				p.now, now, errno = now.opened(b)
			}
			if errno == api.OK && !yield(p, api.OK) {
				return
			}
		}
		if errno != api.OK {
			yield(pair{}, errno)
		}
	}
}
