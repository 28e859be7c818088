package verify_test

import (
	"bytes"
	"fmt"
	"math/big"
	"slices"
	"strings"
	"testing"

	"witness/api"
	"witness/codec"
	"witness/verify"
)

var all = api.Span{Open: true}

func from(lo string) api.Span { return api.Span{Lo: []byte(lo), Open: true} }

func span(lo, hi string) api.Span { return api.Span{Lo: []byte(lo), Hi: []byte(hi)} }

// only is the span that has a key alone.
func only(key string) api.Span { return span(key, key+"\x00") }

func lies(s api.Span, key string) bool {
	return key >= string(s.Lo) && (s.Open || key < string(s.Hi))
}

func toldSpan(s api.Span) string {
	if s.Open {
		return fmt.Sprintf("[%.20q ..", s.Lo)
	}
	return fmt.Sprintf("[%.20q, %.20q)", s.Lo, s.Hi)
}

// answerOf is what a map has in a span.
func answerOf(m map[string]string, s api.Span) api.Answer {
	a := api.Answer{Count: uint64(len(m))}
	for _, e := range listOf(m) {
		if string(e.Key) < string(s.Lo) {
			a.Rank++
		}
		if lies(s, string(e.Key)) {
			a.Entries = append(a.Entries, e)
		}
	}
	return a
}

func sameEntry(a, b api.Entry) bool {
	return bytes.Equal(a.Key, b.Key) && bytes.Equal(a.Value, b.Value)
}

func sameAnswer(a, b api.Answer) bool {
	return a.Rank == b.Rank && a.Count == b.Count && slices.EqualFunc(a.Entries, b.Entries, sameEntry)
}

func isZero(a api.Answer) bool { return a.Entries == nil && a.Rank == 0 && a.Count == 0 }

func toldAnswer(a api.Answer) string {
	var words []string
	for _, e := range a.Entries[:min(len(a.Entries), 10)] {
		words = append(words, fmt.Sprintf("%.12q = %.12q", e.Key, e.Value))
	}
	return fmt.Sprintf("%d entries (%s), rank %d, count %d", len(a.Entries), strings.Join(words, ", "), a.Rank, a.Count)
}

// walk gives the ops of a span, as the document says them.
type walk struct {
	in  api.Span
	p   *plan
	ops []api.Op
}

// along is walk(tower), with these of its kids left.
func (w *walk) along(t api.Tower, kids []api.Kid) {
	if len(kids) == 0 {
		switch {
		case t.Head:
			w.ops = append(w.ops, api.Op{Kind: api.OpHead})
		case lies(w.in, string(t.Key)):
			w.ops = append(w.ops, api.Op{Kind: api.OpIn, Value: []byte(w.p.m[string(t.Key)])})
		default:
			w.ops = append(w.ops, api.Op{Kind: api.OpOut, Sum: t.Value.Sum})
		}
		return
	}
	u := kids[0]
	into := w.p.towers[string(u.Key)]
	op := api.Op{Kind: api.OpBoth, Level: u.Level, Key: u.Key, Count: u.Count}
	switch {
	case !w.in.Open && string(w.in.Hi) <= string(u.Key):
		op.Kind, op.Sum = api.OpStay, u.Label
		w.ops = append(w.ops, op)
		w.along(t, kids[1:])
	case string(u.Key) <= string(w.in.Lo):
		below := t
		below.Kids = kids[1:]
		op.Kind, op.Sum = api.OpRight, labelOf(below)
		w.ops = append(w.ops, op)
		w.along(into, into.Kids)
	default:
		w.ops = append(w.ops, op)
		w.along(t, kids[1:])
		w.along(into, into.Kids)
	}
}

// ops are those of a map's span.
func (p *plan) ops(in api.Span) []api.Op {
	w := &walk{in: in, p: p}
	w.along(p.head, p.head.Kids)
	return w.ops
}

// proof is the bytes of a map's span.
func (p *plan) proof(in api.Span) []byte {
	return proofBytes(uint64(len(p.m)), p.ops(in)...)
}

// proofBytes are a proof's, by DOC.md's table.
func proofBytes(count uint64, ops ...api.Op) []byte {
	parts := [][]byte{number(count)}
	for _, o := range ops {
		kid := cat([]byte{byte(o.Level)}, number(uint64(len(o.Key))), o.Key, number(o.Count))
		parts = append(parts, []byte{byte(o.Kind)})
		switch o.Kind {
		case api.OpIn:
			parts = append(parts, number(uint64(len(o.Value))), o.Value)
		case api.OpOut:
			parts = append(parts, o.Sum[:])
		case api.OpStay, api.OpRight:
			parts = append(parts, kid, o.Sum[:])
		case api.OpBoth:
			parts = append(parts, kid)
		}
	}
	return cat(parts...)
}

// model reads ops by the chapter's words: parts within parts, and numbers without end.
type model struct {
	in      api.Span
	ops     []api.Op
	entries []api.Entry
	stays   *big.Int
}

// part is the label of a part; tower: nil of the head; end: nil, if there is none.
func (m *model) part(tower *string, bound int, end *string) (api.Sum, api.Errno) {
	if len(m.ops) == 0 {
		return api.Sum{}, api.ErrEnds
	}
	op := m.ops[0]
	m.ops = m.ops[1:]
	switch op.Kind {
	case api.OpStay, api.OpRight, api.OpBoth:
		return m.kid(op, tower, bound, end)
	}
	if op.Kind != m.leafKind(tower) {
		return api.Sum{}, api.ErrOp
	}
	value := op.Sum
	switch op.Kind {
	case api.OpHead:
		return sumOf([]byte{0x12}), api.OK
	case api.OpIn:
		m.entries = append(m.entries, api.Entry{Key: []byte(*tower), Value: op.Value})
		value = sumOf([]byte{1}, op.Value)
	}
	return sumOf([]byte{0x11}, word(len(*tower)), []byte(*tower), value[:]), api.OK
}

func (m *model) leafKind(tower *string) int {
	if tower == nil {
		return api.OpHead
	}
	if lies(m.in, *tower) {
		return api.OpIn
	}
	return api.OpOut
}

// refused is what an op that tells of a kid is refused with.
func (m *model) refused(op api.Op, tower *string, bound int, end *string) api.Errno {
	key := string(op.Key)
	if op.Level >= bound {
		return api.ErrLevel
	}
	if heightOf(key) != op.Level+1 {
		return api.ErrHeight
	}
	if tower != nil && key <= *tower || end != nil && key >= *end {
		return api.ErrKey
	}
	kind := api.OpBoth
	if !m.in.Open && string(m.in.Hi) <= key {
		kind = api.OpStay
	} else if key <= string(m.in.Lo) {
		kind = api.OpRight
	}
	if op.Kind != kind {
		return api.ErrOp
	}
	return api.OK
}

func (m *model) kid(op api.Op, tower *string, bound int, end *string) (api.Sum, api.Errno) {
	if e := m.refused(op, tower, bound, end); e != api.OK {
		return api.Sum{}, e
	}
	key := string(op.Key)
	below, own, e := op.Sum, op.Sum, api.OK
	if op.Kind == api.OpStay {
		m.stays.Add(m.stays, new(big.Int).SetUint64(op.Count))
	}
	if op.Kind != api.OpRight {
		below, e = m.part(tower, op.Level, &key)
	}
	if e == api.OK && op.Kind != api.OpStay {
		own, e = m.part(&key, op.Level+1, end)
	}
	if e != api.OK {
		return api.Sum{}, e
	}
	return sumOf([]byte{0x13, byte(op.Level)}, long(op.Count), word(len(key)), op.Key, below[:], own[:]), api.OK
}

func unfit(s api.Span) api.Errno {
	if len(s.Lo) > 1025 || !s.Open && len(s.Hi) > 1025 {
		return api.ErrLimit
	}
	if !s.Open && string(s.Lo) >= string(s.Hi) {
		return api.ErrBounds
	}
	return api.OK
}

// rightly is the label under which a proof is taken and what it shows then; or the error that it has under every label.
func rightly(in api.Span, proof []byte) (api.Sum, api.Answer, api.Errno) {
	if e := unfit(in); e != api.OK {
		return api.Sum{}, api.Answer{}, e
	}
	p, e := codec.ReadProof(proof)
	if e != api.OK {
		return api.Sum{}, api.Answer{}, e
	}
	m := &model{in: in, ops: p.Ops, stays: new(big.Int)}
	label, e := m.part(nil, 24, nil)
	if e == api.OK && len(m.ops) > 0 {
		e = api.ErrEnds
	}
	rank := new(big.Int).SetUint64(p.Count)
	rank.Sub(rank, m.stays)
	rank.Sub(rank, big.NewInt(int64(len(m.entries))))
	if e == api.OK && rank.Sign() < 0 {
		e = api.ErrCount
	}
	if e != api.OK {
		return api.Sum{}, api.Answer{}, e
	}
	return sumOf([]byte{0x14}, long(p.Count), label[:]), api.Answer{Entries: m.entries, Rank: rank.Uint64(), Count: p.Count}, api.OK
}

// takes holds all calls against what a proof shows.
func takes(t *testing.T, what string, root api.Sum, in api.Span, proof []byte, want api.Answer) {
	t.Helper()
	if a, e := verify.Span(root, in, proof); !sameAnswer(a, want) || e != api.OK {
		t.Errorf("11.1: %s: Span of %s: %s, %d, want %s, 0", what, toldSpan(in), toldAnswer(a), e, toldAnswer(want))
	}
	answers(t, "11.3: "+what+": Claim of the answer", verify.Claim(root, in, want, proof), api.OK)
	other := want
	other.Rank++
	answers(t, "11.3: "+what+": Claim of another rank", verify.Claim(root, in, other, proof), api.ErrAnswer)
	if key, ok := onlyKey(in); ok {
		var value []byte
		for _, e := range want.Entries {
			value = e.Value
		}
		if v, there, e := verify.Key(root, key, proof); !bytes.Equal(v, value) || there != (len(want.Entries) == 1) || e != api.OK {
			t.Errorf("11.2: %s: Key of %.20q: %.20q, %v, %d, want %.20q, %d entries", what, key, v, there, e, value, len(want.Entries))
		}
	}
}

// refuses holds all calls against an error.
func refuses(t *testing.T, what string, root api.Sum, in api.Span, proof []byte, want api.Errno) {
	t.Helper()
	if a, e := verify.Span(root, in, proof); !isZero(a) || e != want {
		t.Errorf("11.1: %s: Span of %s: %s, %d, want nothing, %d", what, toldSpan(in), toldAnswer(a), e, want)
	}
	answers(t, "11.3: "+what+": Claim", verify.Claim(root, in, api.Answer{}, proof), want)
	if key, ok := onlyKey(in); ok {
		if v, there, e := verify.Key(root, key, proof); v != nil || there || e != want {
			t.Errorf("11.2: %s: Key of %.20q: %.20q, %v, %d, want nothing, %d", what, key, v, there, e, want)
		}
	}
}

// onlyKey is the key that a span has alone.
func onlyKey(in api.Span) ([]byte, bool) {
	return in.Lo, !in.Open && string(in.Hi) == string(in.Lo)+"\x00" && len(in.Lo) <= api.MaxKey
}

// holds holds all calls against the model, under a label and under the one that the proof has, if it has one.
func holds(t *testing.T, what string, root api.Sum, in api.Span, proof []byte) api.Errno {
	t.Helper()
	own, a, e := rightly(in, proof)
	if e != api.OK {
		refuses(t, what, root, in, proof, e)
		return e
	}
	takes(t, what, own, in, proof, a)
	if own != root {
		refuses(t, what, root, in, proof, api.ErrLabel)
	}
	return api.OK
}
