package prove_test

import (
	"bytes"
	"fmt"
	"maps"
	"reflect"
	"slices"
	"strings"
	"testing"

	"witness/api"
	"witness/node"
	"witness/prove"
	"witness/skip"
	"witness/sweep"
)

var all = api.Span{Open: true}

func from(lo string) api.Span { return api.Span{Lo: []byte(lo), Open: true} }

func span(lo, hi string) api.Span { return api.Span{Lo: []byte(lo), Hi: []byte(hi)} }

func lies(s api.Span, key string) bool {
	return key >= string(s.Lo) && (s.Open || key < string(s.Hi))
}

func toldSpan(s api.Span) string {
	if s.Open {
		return fmt.Sprintf("[%.20q ..", s.Lo)
	}
	return fmt.Sprintf("[%.20q, %.20q)", s.Lo, s.Hi)
}

// entriesIn is what a map has in a span.
func entriesIn(m map[string]string, s api.Span) []api.Entry {
	return slices.DeleteFunc(listOf(m), func(e api.Entry) bool { return !lies(s, string(e.Key)) })
}

func sameEntry(a, b api.Entry) bool {
	return bytes.Equal(a.Key, b.Key) && bytes.Equal(a.Value, b.Value)
}

// walk is the document's, word by word: which ops it gives, and which towers it comes to.
type walk struct {
	in    api.Span
	tower func(k api.Kid) api.Tower
	value func(t api.Tower) []byte
	ops   []api.Op
	came  []api.Tower
}

// into is walk(tower).
func (w *walk) into(t api.Tower) {
	w.came = append(w.came, t)
	w.along(t, t.Kids)
}

// along is what is left of a tower, with these kids.
func (w *walk) along(t api.Tower, kids []api.Kid) {
	if len(kids) == 0 {
		switch {
		case t.Head:
			w.ops = append(w.ops, api.Op{Kind: api.OpHead})
		case lies(w.in, string(t.Key)):
			w.ops = append(w.ops, api.Op{Kind: api.OpIn, Value: w.value(t)})
		default:
			w.ops = append(w.ops, api.Op{Kind: api.OpOut, Sum: t.Value.Sum})
		}
		return
	}
	u := kids[0]
	op := api.Op{Kind: api.OpBoth, Level: u.Level, Key: u.Key, Count: u.Count}
	switch {
	case !w.in.Open && string(w.in.Hi) <= string(u.Key):
		op.Kind, op.Sum = api.OpStay, u.Label
		w.ops = append(w.ops, op)
		w.along(t, kids[1:])
	case string(u.Key) <= string(w.in.Lo):
		below := t
		below.Kids = kids[1:]
		op.Kind, op.Sum = api.OpRight, labelOf(below)
		w.ops = append(w.ops, op)
		w.into(w.tower(u))
	default:
		w.ops = append(w.ops, op)
		w.along(t, kids[1:])
		w.into(w.tower(u))
	}
}

// walk is that of a whole map.
func (p *plan) walk(in api.Span) *walk {
	w := &walk{in: in}
	w.tower = func(k api.Kid) api.Tower { return p.towers[string(k.Key)] }
	w.value = func(t api.Tower) []byte {
		i, _ := slices.BinarySearch(p.keys, string(t.Key))
		return []byte(p.values[i])
	}
	w.into(p.head)
	return w
}

// walk is that of a tree that was made by hand; all that it goes into can be had.
func (s store) walk(x api.Tree, in api.Span) *walk {
	s.t.Helper()
	load := func(a api.Addr) api.Tower {
		t, e := node.Load(s.b, a)
		answers(s.t, "7.5: Load", e, api.OK)
		return t
	}
	w := &walk{in: in}
	w.tower = func(k api.Kid) api.Tower { return load(k.Addr) }
	w.value = func(t api.Tower) []byte {
		value, e := s.b.Get(api.KindValue, t.Value)
		answers(s.t, "6.4: Get", e, api.OK)
		return value
	}
	w.into(load(x.Addr))
	return w
}

// proofBytes are a proof's, by DOC.md's table.
func proofBytes(p api.Proof) []byte {
	parts := [][]byte{number(p.Count)}
	for _, o := range p.Ops {
		kid := cat([]byte{byte(o.Level)}, number(uint64(len(o.Key))), o.Key, number(o.Count))
		parts = append(parts, []byte{byte(o.Kind)})
		switch o.Kind {
		case api.OpIn:
			parts = append(parts, number(uint64(len(o.Value))), o.Value)
		case api.OpOut:
			parts = append(parts, o.Sum[:])
		case api.OpStay, api.OpRight:
			parts = append(parts, kid, o.Sum[:])
		case api.OpBoth:
			parts = append(parts, kid)
		}
	}
	return cat(parts...)
}

func sameOp(a, b api.Op) bool {
	return a.Kind == b.Kind && a.Level == b.Level && bytes.Equal(a.Key, b.Key) && a.Count == b.Count && a.Sum == b.Sum && bytes.Equal(a.Value, b.Value)
}

func sameProof(a, b api.Proof) bool {
	return a.Count == b.Count && slices.EqualFunc(a.Ops, b.Ops, sameOp)
}

func toldProof(p api.Proof) string {
	var words []string
	for _, o := range p.Ops[:min(len(p.Ops), 20)] {
		words = append(words, fmt.Sprintf("%d: level %d %.12q count %d %s %.12q", o.Kind, o.Level, o.Key, o.Count, front(o.Sum), o.Value))
	}
	return fmt.Sprintf("of %d keys, %d ops: %s", p.Count, len(p.Ops), strings.Join(words, "; "))
}

// proves holds Ops, Span, Size and, where it can be, Key against a proof.
func (s store) proves(what string, x api.Tree, in api.Span, want api.Proof) {
	s.t.Helper()
	what += " " + toldSpan(in)
	laid, end := proofBytes(want), api.OK
	size := len(laid)
	if size > api.MaxProof {
		laid, end = nil, api.ErrProof
	}
	s.unchanged("10.4: "+what, func() {
		s.t.Helper()
		if p, e := prove.Ops(s.b, x, in); !sameProof(p, want) || e != api.OK {
			s.t.Errorf("10.1: %s: Ops %s, %d, want %s, 0", what, toldProof(p), e, toldProof(want))
		}
		if l, e := prove.Span(s.b, x, in); !bytes.Equal(l, laid) || e != end || e != api.OK && l != nil {
			s.t.Errorf("10.2: %s: Span %.100x, %d, want %.100x, %d", what, l, e, laid, end)
		}
		if n, e := prove.Size(s.b, x, in); n != size || e != api.OK {
			s.t.Errorf("10.2: %s: Size %d, %d, want %d, 0", what, n, e, size)
		}
		if key := in.Lo; !in.Open && string(in.Hi) == string(key)+"\x00" && len(key) <= api.MaxKey {
			if l, e := prove.Key(s.b, x, key); !bytes.Equal(l, laid) || e != end || e != api.OK && l != nil {
				s.t.Errorf("10.3: %s: Key %.100x, %d, want %.100x, %d", what, l, e, laid, end)
			}
		}
	})
}

// fails holds all calls with a span against an error: there is no proof then.
func (s store) fails(what string, x api.Tree, in api.Span, want api.Errno) {
	s.t.Helper()
	what += " " + toldSpan(in)
	s.unchanged("10.4: "+what, func() {
		s.t.Helper()
		if p, e := prove.Ops(s.b, x, in); p.Count != 0 || p.Ops != nil || e != want {
			s.t.Errorf("10.1: %s: Ops %s, %d, want no proof, %d", what, toldProof(p), e, want)
		}
		if l, e := prove.Span(s.b, x, in); l != nil || e != want {
			s.t.Errorf("10.2: %s: Span %.100x, %d, want no bytes, %d", what, l, e, want)
		}
		if n, e := prove.Size(s.b, x, in); n != 0 || e != want {
			s.t.Errorf("10.2: %s: Size %d, %d, want 0, %d", what, n, e, want)
		}
		if key := in.Lo; !in.Open && string(in.Hi) == string(key)+"\x00" && len(key) <= api.MaxKey {
			if l, e := prove.Key(s.b, x, key); l != nil || e != want {
				s.t.Errorf("10.3: %s: Key %.100x, %d, want no bytes, %d", what, l, e, want)
			}
		}
	})
}

// holds holds the proof of a map's span against the document's walk, against what it must show, and against how long it may be.
func (s store) holds(x api.Tree, p *plan, m map[string]string, in api.Span) {
	s.t.Helper()
	w := p.walk(in)
	proof := api.Proof{Count: uint64(len(m)), Ops: w.ops}
	s.proves("a map", x, in, proof)
	s.shows(x, m, in)
	s.isShort(x, w, m)
}

// plain is a proof's ops as they are read again, without any store.
type plain struct {
	t       *testing.T
	ops     []api.Op
	entries []api.Entry
	stays   uint64
}

// label is that of a tower, or of what is left of it, by the ops alone.
func (r *plain) label(head bool, key []byte) api.Sum {
	if len(r.ops) == 0 {
		r.t.Fatalf("10.1: the ops end too early")
	}
	o := r.ops[0]
	r.ops = r.ops[1:]
	var below, kid api.Sum
	switch o.Kind {
	case api.OpHead:
		if !head {
			r.t.Errorf("10.1: OpHead for %q", key)
		}
		return sumOf([]byte{0x12})
	case api.OpIn:
		r.entries = append(r.entries, api.Entry{Key: key, Value: o.Value})
		value := sumOf([]byte{1}, o.Value)
		return sumOf([]byte{0x11}, word(len(key)), key, value[:])
	case api.OpOut:
		return sumOf([]byte{0x11}, word(len(key)), key, o.Sum[:])
	case api.OpStay:
		r.stays += o.Count
		below, kid = r.label(head, key), o.Sum
	case api.OpRight:
		below, kid = o.Sum, r.label(false, o.Key)
	case api.OpBoth:
		below = r.label(head, key)
		kid = r.label(false, o.Key)
	}
	return sumOf([]byte{0x13, byte(o.Level)}, long(o.Count), word(len(o.Key)), o.Key, below[:], kid[:])
}

// shows holds that a proof shows what the map has in a span, against the tree's label alone.
func (s store) shows(x api.Tree, m map[string]string, in api.Span) {
	s.t.Helper()
	proof, _ := prove.Ops(s.b, x, in)
	r := &plain{t: s.t, ops: proof.Ops}
	label := r.label(true, nil)
	if root := sumOf([]byte{0x14}, long(proof.Count), label[:]); root != x.Label || len(r.ops) > 0 {
		s.t.Errorf("10.1: the proof of %s has the label %s and %d ops too many, and the tree has the label %s", toldSpan(in), front(root), len(r.ops), front(x.Label))
	}
	if !slices.EqualFunc(r.entries, entriesIn(m, in), sameEntry) {
		s.t.Errorf("10.1: the proof of %s shows %d entries, and there are %d", toldSpan(in), len(r.entries), len(entriesIn(m, in)))
	}
	rank := proof.Count - r.stays - uint64(len(r.entries))
	if want := len(m) - len(entriesIn(m, from(string(in.Lo)))); rank != uint64(want) {
		s.t.Errorf("10.1: the proof of %s shows the rank %d, want %d", toldSpan(in), rank, want)
	}
}

// isShort holds what the calls answer against the bounds of 10.5.
func (s store) isShort(x api.Tree, w *walk, m map[string]string) {
	s.t.Helper()
	k, longest := 0, 0
	for _, t := range w.came {
		k += len(t.Kids)
		for _, kid := range t.Kids {
			longest = max(longest, len(kid.Key))
		}
	}
	a, v := 0, 0
	for _, e := range entriesIn(m, w.in) {
		a++
		v += len(e.Value)
	}
	size, e := prove.Size(s.b, x, w.in)
	if bound := 10 + k*(47+longest) + v + 36*(a+1); size > bound || e != api.OK {
		s.t.Errorf("10.5: the proof of %s has %d bytes, and the bound is %d", toldSpan(w.in), size, bound)
	}
	proof, e := prove.Ops(s.b, x, w.in)
	if len(proof.Ops) > k+a+2 || e != api.OK {
		s.t.Errorf("10.5: the proof of %s has %d ops, and the bound is %d", toldSpan(w.in), len(proof.Ops), k+a+2)
	}
}

// planted is the tree of a map, applied in batches.
func (s store) planted(m map[string]string) api.Tree {
	s.t.Helper()
	x, e := skip.Empty(s.b)
	answers(s.t, "8.1: Empty", e, api.OK)
	var l []api.Edit
	for _, e := range listOf(m) {
		l = append(l, api.Edit{Key: e.Key, Value: e.Value})
	}
	for batch := range slices.Chunk(l, api.MaxBatch) {
		x, e = sweep.Apply(s.b, x, batch)
		answers(s.t, "9.1: Apply", e, api.OK)
	}
	return x
}

// bounds are texts at and around keys, in their order.
func bounds(m map[string]string) []string {
	l := []string{"", "\x00", "\xff\xff\xff\xff\xff"}
	for key := range m {
		l = append(l, key, key+"\x00")
		if key != "" {
			l = append(l, key[:len(key)-1])
		}
	}
	slices.Sort(l)
	return slices.Compact(l)
}

// spansOf are all that have such bounds.
func spansOf(l []string) []api.Span {
	var spans []api.Span
	for i, lo := range l {
		spans = append(spans, from(lo))
		for _, hi := range l[i+1:] {
			spans = append(spans, span(lo, hi))
		}
	}
	return spans
}

// some are at most n of a list, by chance.
func some[T any](n *noise, l []T, most int) []T {
	if len(l) <= most {
		return l
	}
	return shuffled(n, l)[:most]
}

func shuffled[T any](n *noise, l []T) []T {
	l = slices.Clone(l)
	for i := range l {
		j := n.below(i + 1)
		l[i], l[j] = l[j], l[i]
	}
	return l
}

// chain is a map in which each key hangs at the one ahead of it.
func chain(size int) map[string]string {
	m := map[string]string{}
	for i, key := range keysOf(1, size, "k") {
		m[key] = fmt.Sprint("v", i%7)
	}
	return m
}

// fan is a map in which each level's key hangs at the head, side by side with the others; or at the key lowest, as far as that is high.
func fan(below bool) map[string]string {
	m := map[string]string{higher: "highest"}
	for level, key := range byLevel[:23] {
		m[key] = fmt.Sprint("v", level)
	}
	if below {
		m[lowest] = "lowest"
	}
	return m
}

// garden is a map in which keys of many heights stand side by side.
func garden() map[string]string {
	m := map[string]string{"": "empty"}
	for height := 1; height <= 5; height++ {
		for i, key := range append(keysOf(height, 3, fmt.Sprint(6-height)), keysOf(height, 2, fmt.Sprint(6+height))...) {
			m[key] = fmt.Sprint("v", i, height)
		}
	}
	return m
}

// chance is a map of some keys, out of few.
func (n *noise) chance(size int) map[string]string {
	m := map[string]string{}
	for range size {
		m[n.key()] = strings.Repeat("v", n.below(200))
	}
	return m
}

// longKeys is a map of some keys with MaxKey bytes.
func longKeys() map[string]string {
	m := map[string]string{}
	for i := range 6 {
		m[strings.Repeat(string(rune('b'+i)), api.MaxKey)] = fmt.Sprint("long", i)
	}
	return m
}

func sortedKeys(m map[string]string) []string { return slices.Sorted(maps.Keys(m)) }

func isZero(o api.Op) bool { return reflect.DeepEqual(o, api.Op{}) }
