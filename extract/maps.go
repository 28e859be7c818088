package extract

import (
	"witness/api"
	"witness/node"
)

// grown is a tower of a map, with the kids that have come so far.
type grown struct {
	level int
	key   []byte
	count uint64
	part  *part
}

// growth is the towers at which further keys may hang: the head first, each one a kid of the one ahead of it.
type growth []grown

// mapTexts are the texts of the walk through a whole map, whose list node.Root takes.
func mapTexts(l []api.Entry) [][]byte {
	g := growth{{level: api.MaxHeight - 1, part: leafPart(&api.Op{Kind: api.OpHead}, nil)}}
	for _, e := range l {
		g.add(e)
	}
	for len(g) > 1 {
		g.hang()
	}
	return textsOf(g[0].count, g[0].part)
}

// add takes a key that is above all that came: it hangs at the last tower that is at least as high.
func (g *growth) add(e api.Entry) {
	level := node.Height(e.Key) - 1
	for (*g)[len(*g)-1].level < level {
		g.hang()
	}
	*g = append(*g, grown{level, e.Key, 1, leafPart(&api.Op{Kind: api.OpIn, Value: e.Value}, e.Key)})
}

// hang joins the last tower, at which no further keys will hang, to the one ahead of it.
func (g *growth) hang() {
	last := len(*g) - 1
	kid, parent := (*g)[last], &(*g)[last-1]
	*g = (*g)[:last]
	op := &api.Op{Kind: api.OpBoth, Level: kid.level, Key: kid.key, Count: kid.count}
	below := parent.part
	if len(kid.key) == 0 { // it is not above the first key of any span, so the walk goes into it alone
		op.Kind, op.Sum = api.OpRight, below.label
		below = nil
	}
	parent.part = kidPart(op, below, kid.part)
	parent.count += kid.count
}
