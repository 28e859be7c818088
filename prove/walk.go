package prove

import (
	"witness/api"
	"witness/blobs"
	"witness/codec"
	"witness/node"
	"witness/spans"
	"witness/trees"
)

// walker comes through the towers of a tree, from the head on, and lays down the ops of a span.
type walker struct {
	b     *blobs.Blobs
	span  api.Span
	most  int       // bytes of a proof of which the ops are wanted; of a longer one its size alone is
	proof api.Proof // what was laid down
	size  int       // of the proof's bytes
	left  []api.Kid // those that are still to be gone into, the next one last
}

// walked is a walker that has come through a tree; with an error the zero one.
func walked(b *blobs.Blobs, t api.Tree, s api.Span, most int) (walker, api.Errno) {
	if errno := spans.Unfit(s); errno != api.OK {
		return walker{}, errno
	}
	head, errno := trees.Head(b, t)
	if errno != api.OK {
		return walker{}, errno
	}
	w := walker{b: b, span: s, most: most, proof: api.Proof{Count: t.Count}}
	w.size = len(codec.Proof(w.proof))
	if errno := w.walk(head); errno != api.OK {
		return walker{}, errno
	}
	return w, api.OK
}

// walk lays down the ops of a tower, and of all towers that are gone into behind it. One that hangs at two places comes twice; it ends, as a kid's key is above its tower's.
func (w *walker) walk(t api.Tower) api.Errno {
	for {
		errno := w.along(t)
		if errno != api.OK || len(w.left) == 0 {
			return errno
		}
		last := len(w.left) - 1
		next := w.left[last]
		w.left = w.left[:last]
		if t, errno = trees.Kid(w.b, next); errno != api.OK {
			return errno
		}
	}
}

// along lays down one tower's ops; the kids that are gone into are left, the lowest one last: it comes ahead of the others.
func (w *walker) along(t api.Tower) api.Errno {
kids:
	for rest := t.Kids; ; rest = rest[1:] {
		if len(rest) == 0 {
			return w.own(t)
		}
		tell := w.manner(rest[0].Key)
		if more := tell(t, rest[0]); !more {
			break kids
		}
	}
	return api.OK
}

// manner is how a kid with that key is told; that answers whether more of its tower is to come.
func (w *walker) manner(key []byte) func(t api.Tower, k api.Kid) bool {
	switch {
	case !spans.AheadOfEnd(w.span, key):
		return w.stay
	case spans.BehindStart(w.span, key):
		return w.both
	}
	return w.right
}

func (w *walker) stay(t api.Tower, k api.Kid) bool {
	w.lay(opOf(api.OpStay, k, k.Label))
	return true
}

func (w *walker) right(t api.Tower, k api.Kid) bool {
	w.lay(opOf(api.OpRight, k, node.Below(t, k.Level)))
	w.left = append(w.left, k)
	return false
}

func (w *walker) both(t api.Tower, k api.Kid) bool {
	w.lay(opOf(api.OpBoth, k, api.Sum{}))
	w.left = append(w.left, k)
	return true
}

// opOf is what each op says of a kid, with its sum.
func opOf(kind int, k api.Kid, sum api.Sum) api.Op {
	return api.Op{Kind: kind, Level: k.Level, Key: k.Key, Count: k.Count, Sum: sum}
}

// own lays down what is left of a tower without kids.
func (w *walker) own(t api.Tower) api.Errno {
	switch {
	case t.Head:
		w.lay(api.Op{Kind: api.OpHead})
	case !spans.Has(w.span, t.Key):
		w.lay(api.Op{Kind: api.OpOut, Sum: t.Value.Sum})
	default:
		value, errno := trees.Value(w.b, t)
		if errno != api.OK {
			return errno
		}
		w.lay(api.Op{Kind: api.OpIn, Value: value})
	}
	return api.OK
}

// lay lays down an op, as long as the ops are wanted.
func (w *walker) lay(o api.Op) {
	w.size += lengthOf(o)
	if w.size <= w.most {
		w.proof.Ops = append(w.proof.Ops, o)
	}
}

// lengthOf is how many bytes an op makes a proof longer.
func lengthOf(o api.Op) int {
	return len(codec.Proof(api.Proof{Ops: []api.Op{o}})) - len(codec.Proof(api.Proof{}))
}
