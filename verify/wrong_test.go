package verify_test

import (
	"bytes"
	"fmt"
	"slices"
	"testing"

	"witness/api"
	"witness/verify"
)

// someMaps are small ones of unlike shapes.
func someMaps(n *noise) []map[string]string {
	return []map[string]string{{}, mapOf("a", "1"), mapOf("a", "1", "b", "2", "c", "3"), chain(5), fan(true), garden(), n.chance(10)}
}

// TestChangedBytes: each byte of honest proofs, changed; what is told is the error that the chapter names.
func TestChangedBytes(t *testing.T) {
	n := &noise{x: 70}
	told := map[api.Errno]int{}
	for _, m := range someMaps(n) {
		p := planOf(m)
		for _, s := range append(some(n, spansOf(bounds(m)), 3), all) {
			proof := p.proof(s)
			for i, old := range proof {
				for _, b := range []byte{0, 1, 3, 4, 5, 6, 23, 24, 127, 128, 255, old + 1, old - 1, old ^ 0x80, byte(n.next())} {
					if b == old {
						continue
					}
					wrong := slices.Clone(proof)
					wrong[i] = b
					_, _, e := rightly(s, wrong)
					if e == api.OK {
						e = api.ErrLabel
					}
					told[e]++
					if a, got := verify.Span(p.root, s, wrong); !isZero(a) || got != e {
						t.Fatalf("11.1: the proof of %s with the byte %d changed from %d to %d: %s, %d, want %d", toldSpan(s), i, old, b, toldAnswer(a), got, e)
					}
				}
			}
		}
	}
	for _, e := range []api.Errno{api.ErrShort, api.ErrLong, api.ErrForm, api.ErrKind, api.ErrLabel, api.ErrKey, api.ErrLevel, api.ErrHeight, api.ErrEnds, api.ErrCount, api.ErrOp} {
		if told[e] == 0 {
			t.Errorf("the error %d never came", e)
		}
	}
}

// underNone holds that a proof is taken under no label: with ErrLabel there would be one.
func underNone(t *testing.T, what string, root api.Sum, s api.Span, proof []byte) {
	t.Helper()
	_, _, want := rightly(s, proof)
	a, e := verify.Span(root, s, proof)
	if !isZero(a) || e == api.OK || e == api.ErrLabel || e != want {
		t.Fatalf("11.7: %s, for %s: %s, %d, want %d", what, toldSpan(s), toldAnswer(a), e, want)
	}
}

// TestFrontsAndLengthenings of bytes that are taken are not taken, for any span under any label.
func TestFrontsAndLengthenings(t *testing.T) {
	n := &noise{x: 71}
	for _, m := range someMaps(n) {
		p := planOf(m)
		l := append(spansOf(bounds(m)), all)
		for _, s := range append(some(n, l, 8), all) {
			proof := p.proof(s)
			takes(t, "11.7: an honest proof", p.root, s, proof, answerOf(m, s))
			for cut := range proof {
				for _, other := range append(some(n, l, 3), s) {
					underNone(t, fmt.Sprintf("%d bytes of %d", cut, len(proof)), p.root, other, proof[:cut])
				}
			}
			for b := range 256 {
				underNone(t, fmt.Sprint("the byte behind it ", b), p.root, s, append(slices.Clone(proof), byte(b)))
			}
			for _, next := range append(some(n, manyOps(n, p), 60), head, in, out) {
				longer := append(slices.Clone(proof), proofBytes(0, next)[1:]...)
				for _, other := range append(some(n, l, 2), s) {
					underNone(t, "one op behind it", p.root, other, longer)
				}
			}
			for _, other := range append(some(n, l, 2), s) {
				underNone(t, "twice", p.root, other, cat(proof, proof))
				underNone(t, "its ops twice", p.root, other, cat(proof, proof[1:]))
			}
		}
	}
}

// TestOtherSpansAndLabels: an honest proof for a span that it is not of, and under a label that it is not of.
func TestOtherSpansAndLabels(t *testing.T) {
	n := &noise{x: 72}
	for _, m := range someMaps(n) {
		p := planOf(m)
		l := append(spansOf(bounds(m)), all)
		for _, s := range append(some(n, l, 25), all) {
			proof := p.proof(s)
			for _, other := range some(n, l, 25) {
				if e := holds(t, "another span", p.root, other, proof); e == api.OK && !bytes.Equal(proof, p.proof(other)) {
					t.Errorf("11.1: the proof of %s is taken for %s", toldSpan(s), toldSpan(other))
				}
			}
			for _, i := range []int{0, 1, 15, 30, 31} {
				root := p.root
				root[i] ^= 1 << n.below(8)
				refuses(t, "11.5: a label with one bit turned", root, s, proof, api.ErrLabel)
			}
			refuses(t, "11.5: the zero label", api.Sum{}, s, proof, api.ErrLabel)
			refuses(t, "11.5: the head's label", labelOf(p.head), s, proof, api.ErrLabel)
			if len(m) > 0 {
				refuses(t, "11.5: the label of no keys", none, s, proof, api.ErrLabel)
			}
		}
	}
}

// twisted is a list of ops in which something is changed.
func twisted(n *noise, p *plan, ops []api.Op) []api.Op {
	ops = slices.Clone(ops)
	i, j := n.below(len(ops)), n.below(len(ops))
	o := &ops[i]
	switch n.below(12) {
	case 0:
		return slices.Delete(ops, i, i+1)
	case 1:
		return slices.Insert(ops, i, ops[j])
	case 2:
		ops[i], ops[j] = ops[j], ops[i]
	case 3:
		o.Kind = 1 + n.below(6)
	case 4:
		o.Level = n.below(24)
	case 5:
		o.Count = []uint64{0, o.Count + 1, o.Count - 1, last, n.next()}[n.below(5)] % (last + 1)
	case 6:
		o.Sum[n.below(32)]++
	case 7:
		o.Value = append(slices.Clone(o.Value), 'x')
	case 8:
		o.Key = ops[j].Key
	case 9:
		o.Key, o.Level = ops[j].Key, ops[j].Level
	case 10:
		return slices.Insert(ops, i, some(n, manyOps(n, p), 1)...)
	default:
		return append(ops[:i:i], ops[j:]...)
	}
	return ops
}

// TestTwistedOps: honest ops with one to three things changed; where it makes a proof, under the label that it has then.
func TestTwistedOps(t *testing.T) {
	n := &noise{x: 73}
	told := map[api.Errno]int{}
	for _, m := range someMaps(n) {
		p := planOf(m)
		l := append(spansOf(bounds(m)), all)
		for range 1500 {
			s := l[n.below(len(l))]
			ops := p.ops(s)
			for range 1 + n.below(3) {
				if len(ops) > 0 {
					ops = twisted(n, p, ops)
				}
			}
			told[holds(t, "twisted ops", p.root, s, proofBytes(uint64(len(m)), ops...))]++
		}
		if t.Failed() {
			t.FailNow()
		}
	}
	for _, e := range []api.Errno{api.OK, api.ErrKey, api.ErrLevel, api.ErrHeight, api.ErrEnds, api.ErrCount, api.ErrOp} {
		if told[e] < 10 {
			t.Errorf("the error %d came %d times", e, told[e])
		}
	}
}

// grower makes ops of no map: what may stand in a proof, by chance, part by part.
type grower struct {
	n    *noise
	in   api.Span
	keys []string
	ops  []api.Op
	most int
}

// sum is one by chance.
func (g *grower) sum() api.Sum { return sumOf(long(g.n.next())) }

// next is a key that may come in a part, if there is one.
func (g *grower) next(tower *string, bound int, end *string) (string, bool) {
	for range 12 {
		key := g.keys[g.n.below(len(g.keys))]
		if heightOf(key) <= bound && (tower == nil || key > *tower) && (end == nil || key < *end) {
			return key, true
		}
	}
	return "", false
}

func (g *grower) part(tower *string, bound int, end *string) {
	key, ok := g.next(tower, bound, end)
	if !ok || len(g.ops) >= g.most {
		switch {
		case tower == nil:
			g.ops = append(g.ops, head)
		case lies(g.in, *tower):
			g.ops = append(g.ops, api.Op{Kind: api.OpIn, Value: long(g.n.next())[:g.n.below(9)]})
		default:
			g.ops = append(g.ops, api.Op{Kind: api.OpOut, Sum: g.sum()})
		}
		return
	}
	o := kid(api.OpBoth, key)
	o.Count = uint64(g.n.below(4))
	switch {
	case !g.in.Open && key >= string(g.in.Hi):
		o.Kind, o.Sum = api.OpStay, g.sum()
	case key <= string(g.in.Lo):
		o.Kind, o.Sum = api.OpRight, g.sum()
	}
	g.ops = append(g.ops, o)
	if o.Kind != api.OpRight {
		g.part(tower, o.Level, &key)
	}
	if o.Kind != api.OpStay {
		g.part(&key, o.Level+1, end)
	}
}

// TestGrownOps: proofs of no honest map are taken too, under their own label, if nothing in them is wrong.
func TestGrownOps(t *testing.T) {
	n := &noise{x: 74}
	keys := append(append(bounds(garden()), byLevel...), bounds(n.chance(60))...)
	taken, entries := 0, 0
	for range 3000 {
		lo, hi := keys[n.below(len(keys))], keys[n.below(len(keys))]
		g := &grower{n: n, in: api.Span{Lo: []byte(lo), Hi: []byte(hi), Open: n.below(2) == 0 || lo >= hi}, keys: keys, most: n.below(60)}
		g.part(nil, 24, nil)
		proof := proofBytes(uint64(n.below(80)), g.ops...)
		e := holds(t, "grown ops", none, g.in, proof)
		if e == api.OK {
			taken++
			_, a, _ := rightly(g.in, proof)
			entries += len(a.Entries)
			rises := slices.IsSortedFunc(a.Entries, func(x, y api.Entry) int { return bytes.Compare(x.Key, y.Key) })
			if !rises || slices.ContainsFunc(a.Entries, func(x api.Entry) bool { return !lies(g.in, string(x.Key)) }) {
				t.Errorf("11.1: entries that do not rise, or lie outside: %s", toldAnswer(a))
			}
		} else if e != api.ErrCount {
			t.Fatalf("grown ops have the error %d", e)
		}
	}
	if taken < 500 || entries < 1000 {
		t.Errorf("%d proofs were taken, with %d entries", taken, entries)
	}
}
