package extract

import (
	"witness/api"
	"witness/blobs"
	"witness/node"
	"witness/spans"
	"witness/trees"
)

// stored is a state of the walk of a tree.
type stored struct {
	b     *blobs.Blobs
	span  api.Span
	tower api.Tower // of its kids, those that are still to be looked at
}

func (s stored) text() []byte {
	switch {
	case len(s.tower.Kids) > 0:
		return node.PairText(s.tower.Kids[0], node.Label(s.below().tower))
	case s.tower.Head:
		return node.HeadText()
	}
	return node.LeafText(s.tower.Key, s.tower.Value.Sum)
}

// behind gives up, if what the walk goes into cannot be had.
func (s stored) behind() []state {
	if len(s.tower.Kids) == 0 {
		return s.own()
	}
	key := s.tower.Kids[0].Key
	switch {
	case !spans.AheadOfEnd(s.span, key):
		return []state{s.below()}
	case !spans.BehindStart(s.span, key):
		return []state{s.kid()}
	}
	return []state{s.below(), s.kid()}
}

// own is what follows where no kids are left.
func (s stored) own() []state {
	if s.tower.Head || !spans.Has(s.span, s.tower.Key) {
		return nil
	}
	v, errno := trees.Value(s.b, s.tower)
	refuse(errno)
	return []state{value(v)}
}

// below is the state below the highest kid that is left.
func (s stored) below() stored {
	s.tower.Kids = s.tower.Kids[1:]
	return s
}

// kid is the state of that kid.
func (s stored) kid() stored {
	tower, errno := trees.Kid(s.b, s.tower.Kids[0])
	refuse(errno)
	s.tower = tower
	return s
}
