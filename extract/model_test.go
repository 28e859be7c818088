package extract_test

import (
	"bytes"
	"fmt"
	"maps"
	"math/big"
	"slices"
	"strings"

	"witness/api"
	"witness/codec"
	"witness/node"
	"witness/skip"
	"witness/sweep"
)

var all = api.Span{Open: true}

func from(lo string) api.Span { return api.Span{Lo: []byte(lo), Open: true} }

func span(lo, hi string) api.Span { return api.Span{Lo: []byte(lo), Hi: []byte(hi)} }

// only is the span that has a key alone.
func only(key string) api.Span { return span(key, key+"\x00") }

func lies(s api.Span, key string) bool {
	return key >= string(s.Lo) && (s.Open || key < string(s.Hi))
}

func toldSpan(s api.Span) string {
	if s.Open {
		return fmt.Sprintf("[%.20q ..", s.Lo)
	}
	return fmt.Sprintf("[%.20q, %.20q)", s.Lo, s.Hi)
}

// told is a list of texts: the first byte, the length and the digest's front of each.
func told(l [][]byte) string {
	var words []string
	for _, x := range l[:min(len(l), 30)] {
		words = append(words, fmt.Sprintf("%.1x %d %s", x, len(x), front(sumOf(x))))
	}
	return fmt.Sprintf("%d texts: %s", len(l), strings.Join(words, "; "))
}

func sameTexts(a, b [][]byte) bool { return slices.EqualFunc(a, b, bytes.Equal) }

// The document's texts, a second time.

func rootText(count uint64, head api.Sum) []byte { return cat([]byte{0x14}, long(count), head[:]) }

func leafText(key []byte, value api.Sum) []byte {
	return cat([]byte{0x11}, word(len(key)), key, value[:])
}

func pairText(level int, key []byte, count uint64, below, kid api.Sum) []byte {
	return cat([]byte{0x13, byte(level)}, long(count), word(len(key)), key, below[:], kid[:])
}

func valueText(value []byte) []byte { return cat([]byte{1}, value) }

// walk is the document's, word by word: which ops and which texts it gives, and which towers it comes to.
type walk struct {
	in    api.Span
	tower func(k api.Kid) api.Tower
	value func(t api.Tower) []byte
	ops   []api.Op
	texts [][]byte
	came  []api.Tower
}

// into is walk(tower).
func (w *walk) into(t api.Tower) {
	w.came = append(w.came, t)
	w.along(t, t.Kids)
}

// lay lays down an op, and the text of its state.
func (w *walk) lay(op api.Op, text []byte) {
	w.ops, w.texts = append(w.ops, op), append(w.texts, text)
}

// along is what is left of a tower, with these kids.
func (w *walk) along(t api.Tower, kids []api.Kid) {
	if len(kids) == 0 {
		w.end(t)
		return
	}
	u, below := kids[0], t
	below.Kids = kids[1:]
	op := api.Op{Kind: api.OpBoth, Level: u.Level, Key: u.Key, Count: u.Count}
	text := pairText(u.Level, u.Key, u.Count, labelOf(below), u.Label)
	switch {
	case !w.in.Open && string(w.in.Hi) <= string(u.Key):
		op.Kind, op.Sum = api.OpStay, u.Label
		w.lay(op, text)
		w.along(t, kids[1:])
	case string(u.Key) <= string(w.in.Lo):
		op.Kind, op.Sum = api.OpRight, labelOf(below)
		w.lay(op, text)
		w.into(w.tower(u))
	default:
		w.lay(op, text)
		w.along(t, kids[1:])
		w.into(w.tower(u))
	}
}

// end is a tower without its kids.
func (w *walk) end(t api.Tower) {
	switch {
	case t.Head:
		w.lay(api.Op{Kind: api.OpHead}, []byte{0x12})
	case lies(w.in, string(t.Key)):
		value := w.value(t)
		w.lay(api.Op{Kind: api.OpIn, Value: value}, leafText(t.Key, t.Value.Sum))
		w.texts = append(w.texts, valueText(value))
	default:
		w.lay(api.Op{Kind: api.OpOut, Sum: t.Value.Sum}, leafText(t.Key, t.Value.Sum))
	}
}

// from is the whole walk, the root's text ahead of it.
func (w *walk) from(head api.Tower) *walk {
	w.texts = [][]byte{rootText(countOf(head), labelOf(head))}
	w.into(head)
	return w
}

// walk is that of a whole map.
func (p *plan) walk(in api.Span) *walk {
	w := &walk{in: in}
	w.tower = func(k api.Kid) api.Tower { return p.towers[string(k.Key)] }
	w.value = func(t api.Tower) []byte {
		i, _ := slices.BinarySearch(p.keys, string(t.Key))
		return []byte(p.values[i])
	}
	return w.from(p.head)
}

// walk is that of a tree that was made by hand; all that it goes into can be had.
func (s store) walk(x api.Tree, in api.Span) *walk {
	s.t.Helper()
	load := func(a api.Addr) api.Tower {
		t, e := node.Load(s.b, a)
		answers(s.t, "7.5: Load", e, api.OK)
		return t
	}
	w := &walk{in: in}
	w.tower = func(k api.Kid) api.Tower { return load(k.Addr) }
	w.value = func(t api.Tower) []byte {
		value, e := s.b.Get(api.KindValue, t.Value)
		answers(s.t, "6.4: Get", e, api.OK)
		return value
	}
	return w.from(load(x.Addr))
}

// proof is that of a walk.
func (w *walk) proof() api.Proof { return api.Proof{Count: countOf(w.came[0]), Ops: w.ops} }

func (p *plan) proof(in api.Span) api.Proof { return p.walk(in).proof() }

func proofOf(count uint64, ops ...api.Op) api.Proof { return api.Proof{Count: count, Ops: ops} }

// proofBytes are a proof's, by DOC.md's table, whether it is fit or not.
func proofBytes(p api.Proof) []byte {
	parts := [][]byte{number(p.Count)}
	for _, o := range p.Ops {
		kid := cat([]byte{byte(o.Level)}, number(uint64(len(o.Key))), o.Key, number(o.Count))
		parts = append(parts, []byte{byte(o.Kind)})
		switch o.Kind {
		case api.OpIn:
			parts = append(parts, number(uint64(len(o.Value))), o.Value)
		case api.OpOut:
			parts = append(parts, bytes.Clone(o.Sum[:]))
		case api.OpStay, api.OpRight:
			parts = append(parts, kid, bytes.Clone(o.Sum[:]))
		case api.OpBoth:
			parts = append(parts, kid)
		}
	}
	return cat(parts...)
}

// model reads ops by the words of chapters 11 and 12: parts within parts, and numbers without end.
type model struct {
	in    api.Span
	ops   []api.Op
	taken *big.Int // the counts of all OpStays and the number of OpIns
}

// part is the texts of a part, its own first; tower: nil of the head; end: nil, if there is none.
func (m *model) part(tower *string, bound int, end *string) ([][]byte, api.Errno) {
	if len(m.ops) == 0 {
		return nil, api.ErrEnds
	}
	op := m.ops[0]
	m.ops = m.ops[1:]
	switch op.Kind {
	case api.OpStay, api.OpRight, api.OpBoth:
		return m.kid(op, tower, bound, end)
	}
	if op.Kind != m.leafKind(tower) {
		return nil, api.ErrOp
	}
	switch op.Kind {
	case api.OpHead:
		return [][]byte{{0x12}}, api.OK
	case api.OpIn:
		m.taken.Add(m.taken, big.NewInt(1))
		return [][]byte{leafText([]byte(*tower), sumOf(valueText(op.Value))), valueText(op.Value)}, api.OK
	}
	return [][]byte{leafText([]byte(*tower), op.Sum)}, api.OK
}

func (m *model) leafKind(tower *string) int {
	if tower == nil {
		return api.OpHead
	}
	if lies(m.in, *tower) {
		return api.OpIn
	}
	return api.OpOut
}

// refused is what an op that tells of a kid is refused with.
func (m *model) refused(op api.Op, tower *string, bound int, end *string) api.Errno {
	key := string(op.Key)
	if op.Level >= bound {
		return api.ErrLevel
	}
	if heightOf(key) != op.Level+1 {
		return api.ErrHeight
	}
	if tower != nil && key <= *tower || end != nil && key >= *end {
		return api.ErrKey
	}
	kind := api.OpBoth
	if !m.in.Open && string(m.in.Hi) <= key {
		kind = api.OpStay
	} else if key <= string(m.in.Lo) {
		kind = api.OpRight
	}
	if op.Kind != kind {
		return api.ErrOp
	}
	return api.OK
}

func (m *model) kid(op api.Op, tower *string, bound int, end *string) ([][]byte, api.Errno) {
	if e := m.refused(op, tower, bound, end); e != api.OK {
		return nil, e
	}
	key := string(op.Key)
	below, own, e := op.Sum, op.Sum, api.OK
	var behind, behindThat [][]byte
	if op.Kind == api.OpStay {
		m.taken.Add(m.taken, new(big.Int).SetUint64(op.Count))
	}
	if op.Kind != api.OpRight {
		if behind, e = m.part(tower, op.Level, &key); e != api.OK {
			return nil, e
		}
		below = sumOf(behind[0])
	}
	if op.Kind != api.OpStay {
		if behindThat, e = m.part(&key, op.Level+1, end); e != api.OK {
			return nil, e
		}
		own = sumOf(behindThat[0])
	}
	return slices.Concat([][]byte{pairText(op.Level, op.Key, op.Count, below, own)}, behind, behindThat), api.OK
}

func unfit(s api.Span) api.Errno {
	if len(s.Lo) > 1025 || !s.Open && len(s.Hi) > 1025 {
		return api.ErrLimit
	}
	if !s.Open && string(s.Lo) >= string(s.Hi) {
		return api.ErrBounds
	}
	return api.OK
}

// rightly is the texts of a proof's bytes, or the error that they have.
func rightly(in api.Span, proof []byte) ([][]byte, api.Errno) {
	if e := unfit(in); e != api.OK {
		return nil, e
	}
	p, e := codec.ReadProof(proof)
	if e != api.OK {
		return nil, e
	}
	m := &model{in: in, ops: p.Ops, taken: new(big.Int)}
	texts, e := m.part(nil, 24, nil)
	switch {
	case e != api.OK:
		return nil, e
	case len(m.ops) > 0:
		return nil, api.ErrEnds
	case m.taken.Cmp(new(big.Int).SetUint64(p.Count)) > 0:
		return nil, api.ErrCount
	}
	return slices.Concat([][]byte{rootText(p.Count, sumOf(texts[0]))}, texts), api.OK
}

// firstUnlike is the first place at which two lists part; none, if they do not.
func firstUnlike(a, b [][]byte) (api.Twins, bool) {
	i := 0
	for i < len(a) && i < len(b) && bytes.Equal(a[i], b[i]) {
		i++
	}
	if i == len(a) || i == len(b) {
		return api.Twins{}, false
	}
	return api.Twins{One: a[i], Two: b[i]}, true
}

// planted is the tree of a map, applied in batches.
func (s store) planted(m map[string]string) api.Tree {
	s.t.Helper()
	x, e := skip.Empty(s.b)
	answers(s.t, "8.1: Empty", e, api.OK)
	var l []api.Edit
	for _, e := range listOf(m) {
		l = append(l, api.Edit{Key: e.Key, Value: e.Value})
	}
	for batch := range slices.Chunk(l, api.MaxBatch) {
		x, e = sweep.Apply(s.b, x, batch)
		answers(s.t, "9.1: Apply", e, api.OK)
	}
	return x
}

// bounds are texts at and around keys, in their order.
func bounds(m map[string]string) []string {
	l := []string{"", "\x00", "\xff\xff\xff\xff\xff"}
	for key := range m {
		l = append(l, key, key+"\x00")
		if key != "" {
			l = append(l, key[:len(key)-1])
		}
	}
	slices.Sort(l)
	return slices.Compact(l)
}

// spansOf are all that have such bounds.
func spansOf(l []string) []api.Span {
	var spans []api.Span
	for i, lo := range l {
		spans = append(spans, from(lo))
		for _, hi := range l[i+1:] {
			spans = append(spans, span(lo, hi))
		}
	}
	return spans
}

// some are at most n of a list, by chance.
func some[T any](n *noise, l []T, most int) []T {
	if len(l) <= most {
		return l
	}
	return shuffled(n, l)[:most]
}

func shuffled[T any](n *noise, l []T) []T {
	l = slices.Clone(l)
	for i := range l {
		j := n.below(i + 1)
		l[i], l[j] = l[j], l[i]
	}
	return l
}

// chain is a map in which each key hangs at the one ahead of it.
func chain(size int) map[string]string {
	m := map[string]string{}
	for i, key := range keysOf(1, size, "k") {
		m[key] = fmt.Sprint("v", i%7)
	}
	return m
}

// fan is a map in which each level's key hangs at the head, side by side with the others; or at the key lowest, as far as that is high.
func fan(below bool) map[string]string {
	m := map[string]string{higher: "highest"}
	for level, key := range byLevel[:23] {
		m[key] = fmt.Sprint("v", level)
	}
	if below {
		m[lowest] = "lowest"
	}
	return m
}

// garden is a map in which keys of many heights stand side by side.
func garden() map[string]string {
	m := map[string]string{"": "empty"}
	for height := 1; height <= 5; height++ {
		for i, key := range append(keysOf(height, 3, fmt.Sprint(6-height)), keysOf(height, 2, fmt.Sprint(6+height))...) {
			m[key] = fmt.Sprint("v", i, height)
		}
	}
	return m
}

// chance is a map of some keys, out of few.
func (n *noise) chance(size int) map[string]string {
	m := map[string]string{}
	for range size {
		m[n.key()] = strings.Repeat("v", n.below(200))
	}
	return m
}

// longKeys is a map of some keys with MaxKey bytes.
func longKeys() map[string]string {
	m := map[string]string{}
	for i := range 6 {
		m[strings.Repeat(string(rune('b'+i)), api.MaxKey)] = fmt.Sprint("long", i)
	}
	return m
}

// kindsOfMaps are maps of all shapes that the document names.
func kindsOfMaps(n *noise) map[string]map[string]string {
	return map[string]map[string]string{
		"no keys":      {},
		"the key \"\"": mapOf("", ""),
		"one key":      mapOf("k", "v"),
		"three keys":   mapOf("a", "1", "b", "2", "c", "3"),
		"a chain":      chain(30),
		"side by side": fan(false),
		"below a key":  fan(true),
		"a garden":     garden(),
		"long keys":    longKeys(),
		"chance":       n.chance(25),
		"much chance":  n.chance(120),
		"great values": mapOf("a", strings.Repeat("v", api.MaxValue), "b", "", "c", strings.Repeat("w", api.MaxValue-1), "e", strings.Repeat("x", 127)),
	}
}

// someMaps are small ones of unlike shapes.
func someMaps(n *noise) []map[string]string {
	return []map[string]string{{}, mapOf("a", "1"), mapOf("a", "1", "b", "2", "c", "3"), chain(5), fan(true), garden(), n.chance(10)}
}

func sortedKeys(m map[string]string) []string { return slices.Sorted(maps.Keys(m)) }
