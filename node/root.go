package node

import (
	"witness/api"
	"witness/blobs"
	"witness/digest"
)

// Root is the root label of a whole map, given as a list.
func Root(l []api.Entry) (api.Sum, api.Errno) {
	towers := newGrowth()
	for i, e := range l {
		if len(e.Key) > api.MaxKey || len(e.Value) > api.MaxValue {
			return api.Sum{}, api.ErrLimit
		}
		if i > 0 && !less(l[i-1].Key, e.Key) {
			return api.Sum{}, api.ErrOrder
		}
		towers.add(e)
	}
	head := towers.end()
	return digest.Of(RootText(head.Count, head.Label)), api.OK
}

// growth is the towers at which further keys may hang: the head first, each one a kid of the one ahead of it, as far as it has grown.
type growth []api.Kid

func newGrowth() growth {
	head := api.Tower{Head: true}
	return growth{{Level: api.MaxHeight - 1, Count: Count(head), Label: Own(head)}}
}

// add takes a key that is above all that came: it hangs at the last tower that is at least as high.
func (g *growth) add(e api.Entry) {
	level := Height(e.Key) - 1
	for g.last().Level < level {
		g.hang()
	}
	t := api.Tower{Key: e.Key, Value: api.Addr{Sum: blobs.Digest(api.KindValue, e.Value)}}
	*g = append(*g, api.Kid{Level: level, Key: e.Key, Count: Count(t), Label: Own(t)})
}

// end hangs all towers up; it is the head.
func (g *growth) end() api.Kid {
	for len(*g) > 1 {
		g.hang()
	}
	return *g.last()
}

func (g *growth) last() *api.Kid { return &(*g)[len(*g)-1] }

// hang joins the last tower, at which no further keys will hang, to the one ahead of it. Kids come so from the lowest level up, as labels want it.
func (g *growth) hang() {
	kid := *g.last()
	*g = (*g)[:len(*g)-1]
	parent := g.last()
	parent.Label = joined(kid, parent.Label)
	parent.Count += kid.Count
}
