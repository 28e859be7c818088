package prove_test

import (
	"bytes"
	"fmt"
	"maps"
	"slices"
	"strings"
	"testing"

	"witness/api"
	"witness/prove"
	"witness/skip"
	"witness/sweep"
)

// TestSpansOfMaps holds proofs of maps of many shapes against the document's walk.
func TestSpansOfMaps(t *testing.T) {
	n := &noise{x: 10}
	for _, c := range []struct {
		what string
		m    map[string]string
	}{
		{"the empty map", nil},
		{"the empty key", mapOf("", "")},
		{"one key", mapOf("k", "v")},
		{"three keys", mapOf("a", "1", "b", "2", "c", "3")},
		{"a chain", chain(9)},
		{"kids of the head", fan(false)},
		{"kids of one key", fan(true)},
		{"keys of all heights", garden()},
		{"keys of MaxKey", longKeys()},
		{"keys by chance", n.chance(20)},
	} {
		t.Run(c.what, func(t *testing.T) {
			s, m := wide(t), c.m
			x, p := s.planted(m), planOf(m)
			isTree(t, "8.9: the tree of a map", x, api.OK, p.tree)
			for _, in := range some(n, spansOf(bounds(m)), 120) {
				s.holds(x, p, m, in)
				if t.Failed() {
					t.FailNow()
				}
			}
			for key := range m {
				s.holds(x, p, m, prove.Only([]byte(key)))
				if len(key) < api.MaxKey {
					s.holds(x, p, m, prove.Only([]byte(key+"\x00")))
				}
			}
		})
	}
}

// TestManyMaps: maps of few keys that are alike in front, and spans of such keys.
func TestManyMaps(t *testing.T) {
	n := &noise{x: 101}
	for round := 0; round < 60 && !t.Failed(); round++ {
		s := wide(t)
		m := n.chance(n.below(30))
		x, p := s.planted(m), planOf(m)
		for range 6 {
			lo, hi := n.key(), n.key()
			if lo < hi {
				s.holds(x, p, m, span(lo, hi))
			} else {
				s.holds(x, p, m, from(lo))
			}
			s.holds(x, p, m, prove.Only([]byte(lo)))
		}
	}
}

// TestALongChain: who chooses keys can make each hang at the one ahead of it; the walk goes through all of them.
func TestALongChain(t *testing.T) {
	s := wide(t)
	m := chain(3000)
	x, p := s.planted(m), planOf(m)
	keys := sortedKeys(m)
	for _, in := range []api.Span{all, from(keys[2998]), span(keys[1500], keys[1502]), prove.Only([]byte(keys[2999])), from("z"), span("", keys[0])} {
		s.holds(x, p, m, in)
	}
	proof, _ := prove.Ops(s.b, x, from("z"))
	if len(proof.Ops) != 3001 {
		t.Errorf("10.1: behind a chain of 3000 keys there are %d ops", len(proof.Ops))
	}
}

// TestFieldsOfOps: each kind of op is met, with the fields that it uses, all others zero.
func TestFieldsOfOps(t *testing.T) {
	s := wide(t)
	m := garden()
	delete(m, "") // it goes ahead of each span, and the head is never told then
	x, p := s.planted(m), planOf(m)
	met := map[int]int{}
	n := &noise{x: 11}
	for _, in := range some(n, spansOf(bounds(m)), 150) {
		proof, e := prove.Ops(s.b, x, in)
		answers(t, "10.1: Ops", e, api.OK)
		for _, o := range proof.Ops {
			met[o.Kind]++
			left := o
			switch left.Kind = 0; o.Kind {
			case api.OpIn:
				left.Value = nil
			case api.OpOut:
				left.Sum = api.Sum{}
			case api.OpStay, api.OpRight, api.OpBoth:
				tower := p.towers[string(o.Key)]
				if o.Level != heightOf(string(o.Key))-1 || o.Count != countOf(tower) || tower.Key == nil {
					t.Errorf("10.1: an op tells of %q with the level %d and the count %d", o.Key, o.Level, o.Count)
				}
				if o.Kind == api.OpStay && o.Sum != labelOf(tower) {
					t.Errorf("10.1: OpStay of %q has another label", o.Key)
				}
				if o.Kind != api.OpBoth {
					left.Sum = api.Sum{}
				}
				left.Level, left.Key, left.Count = 0, nil, 0
			}
			if !isZero(left) {
				t.Errorf("10.1: an op of the kind %d has fields that it does not use: %v", o.Kind, left)
			}
		}
	}
	for kind := api.OpIn; kind < api.NumOps; kind++ {
		if met[kind] == 0 {
			t.Errorf("no op of the kind %d was met", kind)
		}
	}
}

// TestSpansWithoutKeys, ahead of all keys, behind all, between two.
func TestSpansWithoutKeys(t *testing.T) {
	s := wide(t)
	m := mapOf("b", "1", "d", "2", "f", "3")
	x, p := s.built(m), planOf(m)
	for _, in := range []api.Span{
		span("", "b"), span("", "\x00"), span("a", "b"), span("b\x00", "d"), span("c", "ca"), span("d\x00", "d\x00\x00"),
		span("f\x00", "g"), from("f\x00"), from("g"), from(strings.Repeat("\xff", api.MaxKey+1)),
	} {
		s.holds(x, p, m, in)
		proof, _ := prove.Ops(s.b, x, in)
		if slices.ContainsFunc(proof.Ops, func(o api.Op) bool { return o.Kind == api.OpIn || o.Kind == api.OpBoth }) {
			t.Errorf("10.1: the proof of %s shows keys: %s", toldSpan(in), toldProof(proof))
		}
	}
	empty, _ := skip.Empty(s.b)
	for _, in := range []api.Span{all, from("k"), span("", "k"), span("k", "l"), prove.Only(nil), prove.Only(make([]byte, api.MaxKey))} {
		s.proves("the empty map", empty, in, api.Proof{Ops: []api.Op{{Kind: api.OpHead}}})
	}
}

// TestLongBounds: those of MaxKey + 1 bytes are fit, just behind the longest key and just ahead of it too.
func TestLongBounds(t *testing.T) {
	s := wide(t)
	m := longKeys()
	m["a"] = "short"
	x, p := s.planted(m), planOf(m)
	for _, key := range sortedKeys(m) {
		if len(key) < api.MaxKey {
			continue
		}
		behind := key + "\x00"
		ahead := key[:api.MaxKey-1] + string([]byte{key[api.MaxKey-1] - 1, 0xff})
		for _, in := range []api.Span{
			span(key, behind), span(ahead, key), span(ahead, behind), span(behind, strings.Repeat("\xff", api.MaxKey+1)),
			from(behind), from(ahead), span("", behind), span("", ahead), span(behind, key+"\x01"),
		} {
			s.holds(x, p, m, in)
		}
	}
}

// TestHiOfAnOpenSpan is not looked at.
func TestHiOfAnOpenSpan(t *testing.T) {
	s := wide(t)
	m := garden()
	x := s.planted(m)
	for _, lo := range []string{"", "3", "8", "zz"} {
		want, _ := prove.Ops(s.b, x, from(lo))
		for _, hi := range []string{"", "2", lo, strings.Repeat("h", api.MaxKey+2)} {
			s.proves("an open span with an end", x, api.Span{Lo: []byte(lo), Hi: []byte(hi), Open: true}, want)
		}
	}
}

// TestSpansThatAreNotFit are refused, ahead of all that can be wrong with a tree.
func TestSpansThatAreNotFit(t *testing.T) {
	s := wide(t)
	m := mapOf("a", "1", "b", "2")
	x := s.built(m)
	long, tooLong := strings.Repeat("k", api.MaxKey+1), strings.Repeat("k", api.MaxKey+2)
	far := strings.Repeat("k", 100000)
	refused := func(x api.Tree) {
		t.Helper()
		s.fails("equal bounds", x, span("x", "x"), api.ErrBounds)
		s.fails("equal bounds", x, span("", ""), api.ErrBounds)
		s.fails("nil bounds", x, api.Span{}, api.ErrBounds)
		s.fails("bounds that fall", x, span("b", "a"), api.ErrBounds)
		s.fails("bounds that fall", x, span("ab", "a"), api.ErrBounds)
		s.fails("bounds that fall, without sign", x, span("\x80", "\x7f"), api.ErrBounds)
		s.fails("no end", x, span("a", ""), api.ErrBounds)
		s.fails("equal long bounds", x, span(long, long), api.ErrBounds)
		s.fails("a long bound that falls", x, span(long, "a"), api.ErrBounds)
		for _, key := range []string{tooLong, far} {
			s.fails("too long a beginning", x, from(key), api.ErrLimit)
			s.fails("too long a beginning", x, span(key, "z"), api.ErrLimit)
			s.fails("too long an end", x, span("a", key), api.ErrLimit)
			s.fails("too long a beginning, behind the end", x, span(key, "a"), api.ErrLimit)
			s.fails("too long an end, ahead of the beginning", x, span("z", key), api.ErrLimit)
			s.fails("equal bounds, too long", x, span(key, key), api.ErrLimit)
		}
		s.keyFails(x, strings.Repeat("k", api.MaxKey+1), api.ErrLimit)
		s.keyFails(x, far, api.ErrLimit)
	}
	refused(x)
	for _, in := range []api.Span{from(long), span("a", long), span(long[:1024], long)} {
		s.holds(x, planOf(m), m, in)
	}
	refused(api.Tree{})
	s.off()
	refused(x)
}

// TestOneMapOneProof: whatever store it lies in, and however it came there.
func TestOneMapOneProof(t *testing.T) {
	n := &noise{x: 12}
	for round := 0; round < 6 && !t.Failed(); round++ {
		m := n.chance(25)
		if round == 0 {
			m = garden()
		}
		one, other := wide(t), newStore(t, 4000, 512, 200)
		x := one.planted(m)
		y, e := skip.Empty(other.b)
		answers(t, "8.1: Empty", e, api.OK)
		for _, key := range shuffled(n, append(sortedKeys(m), "zz", "0")) {
			first := "another value"
			if n.below(2) == 0 {
				first = m[key]
			}
			y, e = skip.Put(other.b, y, []byte(key), []byte(first))
			answers(t, "8.5: Put", e, api.OK)
		}
		var edits []api.Edit
		for _, key := range []string{"zz", "0"} {
			if _, stays := m[key]; !stays {
				edits = append(edits, api.Edit{Key: []byte(key), Gone: true})
			}
		}
		for _, key := range shuffled(n, sortedKeys(m)) {
			edits = append(edits, api.Edit{Key: []byte(key), Value: []byte(m[key])})
		}
		y, e = sweep.Apply(other.b, y, edits)
		isTree(t, "9.8: the same map", y, e, x)
		for _, in := range some(n, spansOf(bounds(m)), 40) {
			p, e := prove.Ops(one.b, x, in)
			answers(t, "10.1: Ops", e, api.OK)
			other.proves("10.4: the same map in another store", y, in, p)
			a, _ := prove.Span(one.b, x, in)
			b, _ := prove.Span(other.b, y, in)
			if !bytes.Equal(a, b) {
				t.Errorf("10.4: the proofs of %s are unlike", toldSpan(in))
			}
		}
	}
}

// TestOlderTrees: each tree of a store has its own proofs, whatever came behind it.
func TestOlderTrees(t *testing.T) {
	s := wide(t)
	x, _ := skip.Empty(s.b)
	m := map[string]string{}
	var trees []api.Tree
	var older []map[string]string
	for i, key := range shuffled(&noise{x: 13}, sortedKeys(garden())) {
		trees, older = append(trees, x), append(older, maps.Clone(m))
		m[key] = fmt.Sprint(i)
		x, _ = skip.Put(s.b, x, []byte(key), []byte(m[key]))
	}
	for i, x := range trees {
		p := planOf(older[i])
		for _, in := range []api.Span{all, span("2", "8"), from("5"), prove.Only([]byte("6"))} {
			s.holds(x, p, older[i], in)
		}
	}
}

// TestAChangeGoesOn: none is begun, ended or undone.
func TestAChangeGoesOn(t *testing.T) {
	s := wide(t)
	m := garden()
	x, p := s.planted(m), planOf(m)
	before := s.view()
	answers(t, "6.8: Begin", s.b.Begin(), api.OK)
	y, e := skip.Put(s.b, x, []byte("new"), []byte("value"))
	answers(t, "8.5: Put", e, api.OK)
	s.holds(x, p, m, all)
	s.fails("a span that is not fit", y, span("b", "a"), api.ErrBounds)
	s.fails("no tree", api.Tree{}, all, api.ErrTree)
	answers(t, "10.4: Begin amid a change", s.b.Begin(), api.ErrOpen)
	answers(t, "10.4: Undo", s.b.Undo(), api.OK)
	if now := s.view(); !slices.Equal(now.addrs, before.addrs) || !slices.Equal(now.places, before.places) {
		t.Errorf("10.4: behind Undo there are %d blobs, and there were %d", len(now.addrs), len(before.addrs))
	}
	s.holds(x, p, m, all)
	s.fails("a tree that was undone", y, all, api.ErrTree)
	answers(t, "10.4: End without a change", s.b.End(), api.ErrOpen)
}
