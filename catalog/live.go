package catalog

import (
	"slices"

	"witness/api"
	"witness/blobs"
	"witness/codec"
	"witness/node"
)

// part is a blob that something needs, and what it has to be.
type part struct {
	kind byte
	addr api.Addr
	size uint64 // of a part of the annals: how many leaves
}

// isNothing passes over no error.
func isNothing(api.Errno) bool { return false }

// isDamage passes over what cannot be read, as long as the disk can be.
func isDamage(errno api.Errno) bool { return errno != api.ErrPower }

// liveOf are the addresses of all that a page's versions and annals need, in their order. The first error is the answer, unless it is passed over.
func liveOf(b *blobs.Blobs, p api.Page, passed func(api.Errno) bool) ([]api.Addr, api.Errno) {
	live := map[api.Addr]struct{}{}
	spoilt := map[part]struct{}{} // many may need one blob that is slow to read and not what they need
	pending := stacked(nil, rootsOf(p))
	for len(pending) > 0 {
		last := len(pending) - 1
		next := pending[last]
		pending = pending[:last]
		if has(live, next.addr) || has(spoilt, next) {
			continue
		}
		needs, errno := needsOf(b, next)
		switch {
		case errno == api.OK:
			live[next.addr] = struct{}{}
			pending = stacked(pending, needs)
		case passed(errno):
			spoilt[next] = struct{}{}
		default:
			return nil, errno
		}
	}
	return inOrder(b, live), api.OK
}

func has[K comparable](set map[K]struct{}, k K) bool {
	_, ok := set[k]
	return ok
}

// stacked lays parts on top of others, so that the first one is taken first.
func stacked(pending, parts []part) []part {
	for _, p := range slices.Backward(parts) {
		pending = append(pending, p)
	}
	return pending
}

// inOrder are these addresses, all of which are there: so the blobs tell them in their order.
func inOrder(b *blobs.Blobs, live map[api.Addr]struct{}) []api.Addr {
	addrs := make([]api.Addr, 0, len(live))
	for a := range b.Each() {
		if has(live, a) {
			addrs = append(addrs, a)
		}
	}
	return addrs
}

// rootsOf are the heads of the trees and the annals' peaks.
func rootsOf(p api.Page) []part {
	var roots []part
	for _, v := range p.Versions {
		roots = append(roots, towerAt(v.Tree.Addr))
	}
	for _, peak := range p.Annal.Peaks {
		roots = append(roots, annalAt(peak.Limb.Addr, peak.Size))
	}
	return roots
}

func towerAt(a api.Addr) part { return part{kind: api.KindTower, addr: a} }

// annalAt is a part of the annals: only that of one leaf is a leaf.
func annalAt(a api.Addr, size uint64) part {
	if size == 1 {
		return part{kind: api.KindLeaf, addr: a, size: size}
	}
	return part{kind: api.KindFork, addr: a, size: size}
}

// needsOf are the parts that a part itself needs, in the order in which they are looked at.
func needsOf(b *blobs.Blobs, p part) ([]part, api.Errno) {
	if p.kind == api.KindTower {
		return needsOfTower(b, p)
	}
	body, errno := b.Get(p.kind, p.addr)
	switch {
	case errno != api.OK:
		return nil, errno
	case p.kind == api.KindFork:
		return needsOfFork(body, p.size)
	case p.kind == api.KindLeaf:
		_, errno = codec.ReadLeaf(body)
	}
	return nil, errno
}

func needsOfTower(b *blobs.Blobs, p part) ([]part, api.Errno) {
	t, errno := node.Load(b, p.addr)
	if errno != api.OK {
		return nil, errno
	}
	var needs []part
	if !t.Head {
		needs = append(needs, part{kind: api.KindValue, addr: t.Value})
	}
	for _, k := range t.Kids {
		needs = append(needs, towerAt(k.Addr))
	}
	return needs, api.OK
}

func needsOfFork(body []byte, size uint64) ([]part, api.Errno) {
	f, errno := codec.ReadFork(body)
	if errno != api.OK {
		return nil, errno
	}
	return []part{annalAt(f.Left.Addr, size/2), annalAt(f.Right.Addr, size/2)}, api.OK
}
