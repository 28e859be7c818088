package verify

import "witness/api"

// part is what is left to be read of a tower.
type part struct {
	tower *api.Op // what told of it; nil: it is the head
	bound int     // its kids that are still to come have levels below it
	end   *api.Op // all keys that come are less than this one's; nil: there is no end
}

// lower is what is left of a tower below a kid of which an op told.
func (p part) lower(op *api.Op) part { return part{p.tower, op.Level, op} }

// kidOf is a kid of which an op told, in a part with that end.
func kidOf(op *api.Op, end *api.Op) part { return part{op, op.Level + 1, end} }

// wait is a kid's op that waits for a label.
type wait struct {
	op    *api.Op
	end   *api.Op // that of the part in which it was told
	below api.Sum // the label below the kid's level,
	known bool    // once this holds; then it is the kid's own label that is waited for
}

// reader takes a proof's ops one by one, and makes a label of them.
type reader struct {
	span    api.Span
	ops     []api.Op // those that are left
	waits   []wait   // the one whose label comes next is the last
	entries []api.Entry
	ahead   uint64 // the proof's count, less the keys that are known not to lie ahead of the span
	over    bool   // there were more of these than the count
}

// head reads the head, and gives its label. What waits stands in a list, and not in calls within calls: how deep parts lie in one another is bounded by the proof's length alone.
func (r *reader) head() api.Sum {
	var label api.Sum
	p, more := part{bound: api.MaxHeight}, true
	for more {
		label, p, more = r.up(r.down(p))
	}
	return label
}

// down reads a part to where no kids are left, and gives the label that stands there.
func (r *reader) down(p part) api.Sum {
	for {
		op := r.take()
		switch op.Kind {
		case api.OpStay:
			r.holdKid(p, op)
			r.notAhead(op.Count)
			r.waits = append(r.waits, wait{op: op})
			p = p.lower(op)
		case api.OpRight:
			r.holdKid(p, op)
			r.waits = append(r.waits, wait{op: op, below: op.Sum, known: true})
			p = kidOf(op, p.end)
		case api.OpBoth:
			r.holdKid(p, op)
			r.waits = append(r.waits, wait{op: op, end: p.end})
			p = p.lower(op)
		default:
			return r.own(p, op)
		}
	}
}

// up hands a label to those that wait for one, each of which makes the next one's of it; as far as a kid that is to be read first, if there is one.
func (r *reader) up(label api.Sum) (api.Sum, part, bool) {
	for len(r.waits) > 0 {
		last := len(r.waits) - 1
		w := &r.waits[last]
		switch {
		case w.known:
			label = pairLabel(w.op, w.below, label)
		case w.op.Kind == api.OpBoth:
			w.below, w.known = label, true
			return label, kidOf(w.op, w.end), true
		default:
			label = pairLabel(w.op, label, w.op.Sum)
		}
		r.waits = r.waits[:last]
	}
	return label, part{}, false
}

// take takes the next op.
func (r *reader) take() *api.Op {
	hold(len(r.ops) > 0, api.ErrEnds)
	op := &r.ops[0]
	r.ops = r.ops[1:]
	return op
}

// holdKid gives up, unless an op may tell of a kid in a part.
func (r *reader) holdKid(p part, op *api.Op) {
	hold(op.Level < p.bound, api.ErrLevel)
	hold(heightOf(op.Key) == op.Level+1, api.ErrHeight)
	hold(p.tower == nil || less(p.tower.Key, op.Key), api.ErrKey)
	hold(p.end == nil || less(op.Key, p.end.Key), api.ErrKey)
	hold(op.Kind == r.kidKind(op.Key), api.ErrOp)
}

// own is the label of a tower without its kids.
func (r *reader) own(p part, op *api.Op) api.Sum {
	hold(op.Kind == r.ownKind(p.tower), api.ErrOp)
	switch op.Kind {
	case api.OpHead:
		return headLabel()
	case api.OpIn:
		r.notAhead(1)
		r.entries = append(r.entries, api.Entry{Key: p.tower.Key, Value: op.Value})
		return leafLabel(p.tower.Key, valueSum(op.Value))
	}
	return leafLabel(p.tower.Key, op.Sum)
}

// notAhead takes keys off the count. What is left of it cannot wrap round, as a sum of counts can.
func (r *reader) notAhead(keys uint64) {
	if keys > r.ahead {
		r.over = true
		return
	}
	r.ahead -= keys
}

// kidKind is the kind of op that belongs to a kid's key.
func (r *reader) kidKind(key []byte) int {
	switch {
	case r.isBehind(key):
		return api.OpStay
	case !less(r.span.Lo, key):
		return api.OpRight
	}
	return api.OpBoth
}

// ownKind is the kind of op that belongs to a tower without its kids.
func (r *reader) ownKind(tower *api.Op) int {
	switch {
	case tower == nil:
		return api.OpHead
	case less(tower.Key, r.span.Lo), r.isBehind(tower.Key):
		return api.OpOut
	}
	return api.OpIn
}

// isBehind tells whether a key is at or behind the span's end.
func (r *reader) isBehind(key []byte) bool { return !r.span.Open && !less(key, r.span.Hi) }
