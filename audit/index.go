package audit

import (
	"witness/annals"
	"witness/api"
	"witness/blobs"
	"witness/codec"
	"witness/node"
	"witness/pages"
)

// index has what stands at each address that is there.
type index map[api.Addr]blob

// blob is what can be loaded of one: at most one of these, by its frame's kind.
type blob struct {
	value bool // it is one that a key may have
	tower *tower
	leaf  *leaf
	fork  *fork
}

// tower is a valid one, with what others say of it.
type tower struct {
	api.Tower
	count uint64
	label api.Sum
}

// leaf is one of the annals; name is its label there.
type leaf struct {
	api.Leaf
	name api.Sum
}

// fork is one of the annals; name is its label there.
type fork struct {
	api.Fork
	name api.Sum
}

// loaded is a blob as far as it can be loaded.
func loaded(kind byte, body []byte) blob {
	switch kind {
	case api.KindValue:
		return blob{value: len(body) <= api.MaxValue}
	case api.KindTower:
		return blob{tower: loadedTower(body)}
	case api.KindLeaf:
		return blob{leaf: loadedLeaf(body)}
	case api.KindFork:
		return blob{fork: loadedFork(body)}
	}
	return blob{}
}

func loadedTower(body []byte) *tower {
	t, errno := codec.ReadTower(body)
	if errno != api.OK || node.Valid(t) != api.OK {
		return nil
	}
	return &tower{Tower: t, count: node.Count(t), label: node.Label(t)}
}

func loadedLeaf(body []byte) *leaf {
	l, errno := codec.ReadLeaf(body)
	if errno != api.OK {
		return nil
	}
	return &leaf{Leaf: l, name: digestOf(annals.LeafText(l))}
}

func loadedFork(body []byte) *fork {
	f, errno := codec.ReadFork(body)
	if errno != api.OK {
		return nil
	}
	return &fork{Fork: f, name: digestOf(annals.ForkText(f.Left.Label, f.Right.Label))}
}

// digestOf is the digest of a text that is hashed: its tag stands where a blob's text has its kind.
func digestOf(text []byte) api.Sum { return blobs.Digest(text[0], text[1:]) }

// live is how many addresses that are there are met when one goes through what a page needs.
func (x index) live(p api.Page) int {
	met := map[api.Addr]struct{}{}
	pages.Through(p, func(next pages.Part) ([]pages.Part, bool) {
		b, there := x[next.Addr]
		if _, again := met[next.Addr]; again || !there {
			return nil, true
		}
		met[next.Addr] = struct{}{}
		return b.needs(next), true
	})
	return len(met)
}

// needs is what a blob needs that is needed as that part; nothing, if it is no such thing.
func (b blob) needs(as pages.Part) []pages.Part {
	switch {
	case as.Kind == api.KindTower && b.tower != nil:
		return pages.OfTower(b.tower.Tower)
	case as.Kind == api.KindFork && b.fork != nil:
		return pages.OfFork(b.fork.Fork, as.Leaves)
	}
	return nil
}
