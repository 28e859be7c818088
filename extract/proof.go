package extract

import (
	"slices"

	"witness/api"
	"witness/blobs"
	"witness/codec"
	"witness/digest"
	"witness/node"
)

// part is a state of the walk of a proof: an op, and what it leads to.
type part struct {
	op    *api.Op
	own   []byte  // its text
	label api.Sum // that text's digest
	below *part   // what is left of the tower below a kid; nil: the walk does not come to it
	kid   *part   // the kid; nil, likewise
}

func (p *part) text() []byte { return p.own }

func (p *part) behind() []state {
	switch p.op.Kind {
	case api.OpStay:
		return []state{p.below}
	case api.OpRight:
		return []state{p.kid}
	case api.OpBoth:
		return []state{p.below, p.kid}
	case api.OpIn:
		return []state{value(p.op.Value)}
	}
	return nil
}

// leafPart is where no kids of a tower are left; the head has no key.
func leafPart(op *api.Op, key []byte) *part {
	text := node.LeafText(key, op.Sum)
	switch op.Kind {
	case api.OpHead:
		text = node.HeadText()
	case api.OpIn:
		text = node.LeafText(key, blobs.Digest(api.KindValue, op.Value))
	}
	return &part{op: op, own: text, label: digest.Of(text)}
}

// kidPart is where a kid is left of which an op tells; nil is what the walk does not come to, and of which the op has the label.
func kidPart(op *api.Op, below, kid *part) *part {
	k := api.Kid{Level: op.Level, Key: op.Key, Count: op.Count, Label: labelOf(kid, op)}
	text := node.PairText(k, labelOf(below, op))
	return &part{op, text, digest.Of(text), below, kid}
}

func labelOf(p *part, op *api.Op) api.Sum {
	if p == nil {
		return op.Sum
	}
	return p.label
}

// proofTexts are the texts of a proof that verify has read to its end.
func proofTexts(proof []byte) [][]byte {
	p, _ := codec.ReadProof(proof)
	return textsOf(p.Count, headPart(p.Ops))
}

// headPart is the head's part of a proof's ops. Gone through from the last one on, they come behind all that they lead to: the part of the next op, and, if there are two, the one behind that.
func headPart(ops []api.Op) *part {
	keys := towerKeys(ops)
	var made parts
	for i := range slices.Backward(ops) {
		op := &ops[i]
		switch op.Kind {
		case api.OpStay:
			made.put(kidPart(op, made.take(), nil))
		case api.OpRight:
			made.put(kidPart(op, nil, made.take()))
		case api.OpBoth:
			below := made.take()
			made.put(kidPart(op, below, made.take()))
		default:
			made.put(leafPart(op, keys[i]))
		}
	}
	return made.take()
}

// towerKeys are the keys of the towers that ops tell of, op by op; none of the head's.
func towerKeys(ops []api.Op) [][]byte {
	keys := make([][]byte, len(ops))
	var key []byte
	var waits [][]byte // of kids that come behind the rest of their towers, the next one last
	for i, op := range ops {
		keys[i] = key
		switch op.Kind {
		case api.OpStay:
		case api.OpRight:
			key = op.Key
		case api.OpBoth:
			waits = append(waits, op.Key)
		default:
			if last := len(waits) - 1; last >= 0 {
				key, waits = waits[last], waits[:last]
			}
		}
	}
	return keys
}

// parts are those to which no op leads yet, the one that comes first last.
type parts []*part

func (l *parts) put(p *part) { *l = append(*l, p) }

func (l *parts) take() *part {
	last := len(*l) - 1
	p := (*l)[last]
	*l = (*l)[:last]
	return p
}

// written is a proof's bytes; of one that has too many, so many that this is seen. (Many ops may share one value, and then have more bytes than there is memory.)
func written(p api.Proof) []byte {
	room := api.MaxProof
	for i, op := range p.Ops {
		room -= leastSize(op)
		if room < 0 {
			p.Ops = p.Ops[:i+1]
			break
		}
	}
	return codec.Proof(p)
}

// leastSize is how many bytes an op has at least.
func leastSize(op api.Op) int {
	switch op.Kind {
	case api.OpIn:
		return 1 + len(op.Value)
	case api.OpStay, api.OpRight, api.OpBoth:
		return 1 + len(op.Key)
	}
	return 1
}
