// Package trees: how the layers from skip on load the towers of a stored tree, and save a new one: see DOC.md, 'The skip list', and chapter 8, 'Words'.
package trees

import (
	"bytes"

	"witness/api"
	"witness/blobs"
	"witness/digest"
	"witness/node"
)

// refusal is what a call answers if something could not be loaded.
func refusal(errno api.Errno) api.Errno {
	switch errno {
	case api.OK, api.ErrPower:
		return errno
	}
	return api.ErrTree
}

// Of is the tree of a head that lies at an address.
func Of(head api.Tower, addr api.Addr) api.Tree {
	count := node.Count(head)
	return api.Tree{Addr: addr, Count: count, Label: digest.Of(node.RootText(count, node.Label(head)))}
}

// Head is the head of a tree that fits.
func Head(b *blobs.Blobs, t api.Tree) (api.Tower, api.Errno) {
	head, errno := node.Load(b, t.Addr)
	if errno != api.OK {
		return api.Tower{}, refusal(errno)
	}
	if !head.Head || Of(head, t.Addr) != t {
		return api.Tower{}, api.ErrTree
	}
	return head, api.OK
}

// Kid is the tower of a kid that fits.
func Kid(b *blobs.Blobs, k api.Kid) (api.Tower, api.Errno) {
	t, errno := node.Load(b, k.Addr)
	if errno != api.OK {
		return api.Tower{}, refusal(errno)
	}
	if t.Head || !bytes.Equal(t.Key, k.Key) || node.Count(t) != k.Count || node.Label(t) != k.Label {
		return api.Tower{}, api.ErrTree
	}
	return t, api.OK
}

// Value is that of a tower.
func Value(b *blobs.Blobs, t api.Tower) ([]byte, api.Errno) {
	value, errno := b.Get(api.KindValue, t.Value)
	return value, refusal(errno)
}

// HasValue tells whether a tower's value is there and is this one.
func HasValue(b *blobs.Blobs, t api.Tower, value []byte) bool {
	if t.Value.Sum != blobs.Digest(api.KindValue, value) {
		return false
	}
	old, errno := Value(b, t)
	return errno == api.OK && bytes.Equal(old, value) // two values may have one digest
}
