package extract_test

import (
	"bytes"
	"slices"
	"testing"

	"witness/api"
	"witness/extract"
	"witness/verify"
)

// lowKeys are the first keys of three bytes with the height 1: each of them hangs at the one ahead of it.
func lowKeys(n int) [][]byte {
	var l [][]byte
	for i := 0; len(l) < n; i++ {
		if key := []byte{byte(i >> 16), byte(i >> 8), byte(i)}; heightOf(string(key)) == 1 {
			l = append(l, key)
		}
	}
	return l
}

// hung are the texts of a walk through keys that hang in one chain, all of which lie in the span; the counts are told by a function.
func hung(keys, values [][]byte, count func(i int) uint64) [][]byte {
	last := len(keys) - 1
	texts := [][]byte{valueText(values[last]), leafText(keys[last], sumOf(valueText(values[last])))} // from the last one on
	label := sumOf(texts[1])
	for i := last; i >= 0; i-- {
		below := []byte{0x12}
		if i > 0 {
			below = leafText(keys[i-1], sumOf(valueText(values[i-1])))
			texts = append(texts, valueText(values[i-1]))
		}
		pair := pairText(0, keys[i], count(i), sumOf(below), label)
		label = sumOf(pair)
		texts = append(texts, below, pair)
	}
	texts = append(texts, rootText(uint64(len(keys)), label))
	slices.Reverse(texts)
	return texts
}

// TestDeepestProof: as many parts in one another as a proof's bytes allow.
func TestDeepestProof(t *testing.T) {
	t.Parallel()
	const each = 9 // bytes of OpBoth with a key of three bytes and the count 1, and of OpIn with an empty value
	room := api.MaxProof - len(proofBytes(proofOf(1<<20, head)))
	keys := lowKeys(room / each)
	values := make([][]byte, len(keys))
	values[len(keys)-1] = bytes.Repeat([]byte{'v'}, room%each)
	p := api.Proof{Count: uint64(len(keys))}
	for i, key := range keys {
		own := api.Op{Kind: api.OpIn}
		if i == 0 {
			own = head
		}
		p.Ops = append(p.Ops, api.Op{Kind: api.OpBoth, Key: key, Count: 1}, own)
	}
	p.Ops = append(p.Ops, api.Op{Kind: api.OpIn, Value: values[len(keys)-1]})
	proof := proofBytes(p)
	if len(proof) != api.MaxProof || len(keys) < 460000 {
		t.Fatalf("the proof has %d bytes, of %d keys", len(proof), len(keys))
	}
	want := hung(keys, values, func(int) uint64 { return 1 }) // true counts would be longer
	tells(t, "the deepest proof", all, p, want)
	if _, e := verify.Span(sumOf(want[0]), all, proof); e != api.OK {
		t.Errorf("12.1: verify does not take the deepest proof against its first text's digest: %d", e)
	}
	cut := p
	cut.Ops = p.Ops[:len(p.Ops)-1]
	untold(t, "the deepest proof without its last op", all, cut, api.ErrEnds)
	cut.Ops = append(slices.Clip(cut.Ops), head)
	untold(t, "the deepest proof with another end", all, cut, api.ErrOp)
	p.Count--
	untold(t, "the deepest proof with a count that is too low", all, p, api.ErrCount)
}

// deep is a tree of keys that hang in one chain, all with the same value, made by hand from the last one on.
func (s store) deep(keys [][]byte, value string) api.Tree {
	s.t.Helper()
	var kids []api.Kid
	own := s.value(value)
	for _, key := range slices.Backward(keys) {
		t := api.Tower{Key: key, Value: own, Kids: kids}
		kids = []api.Kid{{Key: key, Count: 1, Label: labelOf(t)}}
		for _, k := range t.Kids {
			kids[0].Count += k.Count
		}
		kids[0].Addr = s.put(api.KindTower, recordOf(t))
	}
	return s.tree(kids...)
}

// TestDeepTree: as many keys in one chain as a disk has room for.
func TestDeepTree(t *testing.T) {
	t.Parallel()
	s := newStore(t, 65530, 256, 1024) // small sectors: each blob writes one or two
	keys := lowKeys(110000)
	values := slices.Repeat([][]byte{[]byte("value")}, len(keys))
	x := s.deep(keys, "value")
	count := func(i int) uint64 { return uint64(len(keys) - i) }
	want := hung(keys, values, count)
	if x.Count != uint64(len(keys)) || x.Label != sumOf(want[0]) {
		t.Fatalf("the tree of %d keys has the label %s, want %s", x.Count, front(x.Label), front(sumOf(want[0])))
	}
	l, e := extract.Honest(s.b, x, all)
	if !sameTexts(l, want) || e != api.OK {
		t.Errorf("12.2: a deep tree: %s, %d, want %s, 0", told(l), e, told(want))
	}
	p := api.Proof{Count: x.Count}
	for i, key := range keys {
		own := api.Op{Kind: api.OpIn, Value: []byte("value")}
		if i == 0 {
			own = head
		}
		p.Ops = append(p.Ops, api.Op{Kind: api.OpBoth, Key: key, Count: count(i)}, own)
	}
	p.Ops = append(p.Ops, api.Op{Kind: api.OpIn, Value: []byte("value")})
	tells(t, "a deep tree's proof", all, p, want)
	s.gives("a deep tree's proof", x, all, proofBytes(p), api.ErrHonest)

	last := string(keys[len(keys)-1])
	far, e := extract.Honest(s.b, x, from(last))
	if len(far) != len(keys)+3 || e != api.OK || string(far[len(far)-1]) != "\x01value" {
		t.Errorf("12.2: the last key of a deep tree: %d texts, %d", len(far), e)
	}
	led(t, "the first texts of a deep tree", far[:100])

	lost := api.Tower{Key: keys[len(keys)-1], Value: valueAddr("value")}
	s.turn(towerAddr(lost))
	s.dishonest("a deep tree without its last tower", x, all, api.ErrTree)
	s.gives("a deep tree without its last tower", x, all, proofBytes(p), api.ErrTree)
	s.dishonest("a deep tree without its last tower", x, only(last), api.ErrTree)
}

// TestDeepMaps: without a store there is no bound but the list's length.
func TestDeepMaps(t *testing.T) {
	t.Parallel()
	keys := lowKeys(150000)
	l := make([]api.Entry, len(keys))
	for i, key := range keys {
		l[i] = api.Entry{Key: key}
	}
	want := hung(keys, make([][]byte, len(keys)), func(i int) uint64 { return uint64(len(keys) - i) })
	if got := extract.MapTexts(l); !sameTexts(got, want) {
		t.Errorf("12.5: a deep map: %s, want %s", told(got), told(want))
	}
	apart(t, "a deep map, with itself", l, cloned(l), api.ErrHonest)
	apart(t, "a deep map, and one key less", l, l[:len(l)-1], api.ErrLabel)
	apart(t, "a deep map whose last key comes twice", l, append(slices.Clip(l), l[len(l)-1]), api.ErrOrder)
}
