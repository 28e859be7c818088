package catalog

import (
	"witness/api"
	"witness/blobs"
	"witness/codec"
	"witness/node"
	"witness/pages"
)

// isNothing passes over no error.
func isNothing(api.Errno) bool { return false }

// isDamage passes over what cannot be read, as long as the disk can be.
func isDamage(errno api.Errno) bool { return errno != api.ErrPower }

// liveOf are the addresses of all that a page's versions and annals need, in their order. The first error is the answer, unless it is passed over.
func liveOf(b *blobs.Blobs, p api.Page, passed func(api.Errno) bool) ([]api.Addr, api.Errno) {
	live := map[api.Addr]struct{}{}
	spoilt := map[pages.Part]struct{}{} // many may need one blob that is slow to read and not what they need
	met := api.OK
	pages.Through(p, func(next pages.Part) ([]pages.Part, bool) {
		if has(live, next.Addr) || has(spoilt, next) {
			return nil, true
		}
		needs, errno := needsOf(b, next)
		switch {
		case errno == api.OK:
			live[next.Addr] = struct{}{}
		case passed(errno):
			spoilt[next] = struct{}{}
		default:
			met = errno
		}
		return needs, met == api.OK
	})
	if met != api.OK {
		return nil, met
	}
	return inOrder(b, live), api.OK
}

func has[K comparable](set map[K]struct{}, k K) bool {
	_, ok := set[k]
	return ok
}

// inOrder are these addresses, all of which are there: so the blobs tell them in their order.
func inOrder(b *blobs.Blobs, live map[api.Addr]struct{}) []api.Addr {
	addrs := make([]api.Addr, 0, len(live))
	for a := range b.Each() {
		if has(live, a) {
			addrs = append(addrs, a)
		}
	}
	return addrs
}

// needsOf are the parts that a part itself needs; none with an error.
func needsOf(b *blobs.Blobs, p pages.Part) ([]pages.Part, api.Errno) {
	if p.Kind == api.KindTower {
		return needsOfTower(b, p.Addr)
	}
	body, errno := b.Get(p.Kind, p.Addr)
	switch {
	case errno != api.OK:
		return nil, errno
	case p.Kind == api.KindFork:
		return needsOfFork(body, p.Leaves)
	case p.Kind == api.KindLeaf:
		_, errno = codec.ReadLeaf(body)
	}
	return nil, errno
}

func needsOfTower(b *blobs.Blobs, a api.Addr) ([]pages.Part, api.Errno) {
	t, errno := node.Load(b, a)
	if errno != api.OK {
		return nil, errno
	}
	return pages.OfTower(t), api.OK
}

func needsOfFork(body []byte, leaves uint64) ([]pages.Part, api.Errno) {
	f, errno := codec.ReadFork(body)
	if errno != api.OK {
		return nil, errno
	}
	return pages.OfFork(f, leaves), api.OK
}
