package verify_test

import (
	"bytes"
	"slices"
	"strings"
	"testing"

	"witness/api"
	"witness/prove"
	"witness/verify"
)

// kindsOfMaps are maps of all shapes that the document names.
func kindsOfMaps(n *noise) map[string]map[string]string {
	return map[string]map[string]string{
		"no keys":      {},
		"the key \"\"": mapOf("", ""),
		"three keys":   mapOf("a", "1", "b", "2", "c", "3"),
		"a chain":      chain(30),
		"side by side": fan(false),
		"below a key":  fan(true),
		"a garden":     garden(),
		"long keys":    longKeys(),
		"chance":       n.chance(25),
		"much chance":  n.chance(120),
		"great values": mapOf("a", strings.Repeat("v", api.MaxValue), "b", "", "c", strings.Repeat("w", api.MaxValue-1), "e", strings.Repeat("x", 127)),
	}
}

// TestProofsOfTrees: what prove tells of a tree is taken under its label, with what its map has.
func TestProofsOfTrees(t *testing.T) {
	n := &noise{x: 60}
	for name, m := range kindsOfMaps(n) {
		s := wide(t)
		x := s.planted(m)
		p := planOf(m)
		if x.Label != p.root {
			t.Fatalf("8.9: %s has the label %s, want %s", name, front(x.Label), front(p.root))
		}
		l := append(some(n, spansOf(bounds(m)), 150), all, span("\x00", "\x00\x00"), from(strings.Repeat("\xff", 1025)), span("", strings.Repeat("\xff", 1025)))
		for _, key := range some(n, bounds(m), 60) {
			if len(key) <= api.MaxKey {
				l = append(l, only(key))
			}
		}
		for _, s1 := range l {
			proof, e := prove.Span(s.b, x, s1)
			answers(t, "10.2: Span", e, api.OK)
			takes(t, "11.6: "+name, x.Label, s1, proof, answerOf(m, s1))
		}
		if t.Failed() {
			t.Fatalf("11.6: %s", name)
		}
	}
}

// TestKeysOfTrees: a key's value, and that a key has none.
func TestKeysOfTrees(t *testing.T) {
	n := &noise{x: 61}
	for name, m := range kindsOfMaps(n) {
		s := wide(t)
		x := s.planted(m)
		var proofs [][]byte
		var keys []string
		for _, key := range some(n, bounds(m), 80) {
			if len(key) > api.MaxKey {
				continue
			}
			proof, e := prove.Key(s.b, x, []byte(key))
			answers(t, "10.3: Key", e, api.OK)
			value, has := m[key]
			if v, there, e := verify.Key(x.Label, []byte(key), proof); string(v) != value || there != has || e != api.OK {
				t.Errorf("11.2: %s: Key of %.20q: %.20q, %v, %d, want %.20q, %v, 0", name, key, v, there, e, value, has)
			}
			proofs, keys = append(proofs, proof), append(keys, key)
		}
		for range 200 {
			i, j := n.below(len(keys)), n.below(len(keys))
			holds(t, "11.2: another key's proof", x.Label, only(keys[i]), proofs[j])
		}
	}
}

// others are answers that differ from one in just one thing.
func others(a api.Answer) map[string]api.Answer {
	changed := func(change func(a *api.Answer)) api.Answer {
		b := api.Answer{Rank: a.Rank, Count: a.Count}
		for _, e := range a.Entries {
			b.Entries = append(b.Entries, api.Entry{Key: bytes.Clone(e.Key), Value: bytes.Clone(e.Value)})
		}
		change(&b)
		return b
	}
	l := map[string]api.Answer{
		"one more rank":        changed(func(a *api.Answer) { a.Rank++ }),
		"one less rank":        changed(func(a *api.Answer) { a.Rank-- }),
		"one more count":       changed(func(a *api.Answer) { a.Count++ }),
		"one less count":       changed(func(a *api.Answer) { a.Count-- }),
		"an entry more":        changed(func(a *api.Answer) { a.Entries = append(a.Entries, api.Entry{Key: []byte("zzz")}) }),
		"an empty entry more":  changed(func(a *api.Answer) { a.Entries = append(a.Entries, api.Entry{}) }),
		"an entry more, ahead": changed(func(a *api.Answer) { a.Entries = slices.Insert(a.Entries, 0, api.Entry{}) }),
	}
	if last := len(a.Entries) - 1; last >= 0 {
		l["no entries"] = changed(func(a *api.Answer) { a.Entries = nil })
		l["without the first"] = changed(func(a *api.Answer) { a.Entries = a.Entries[1:] })
		l["without the last"] = changed(func(a *api.Answer) { a.Entries = a.Entries[:last] })
		l["the last one twice"] = changed(func(a *api.Answer) { a.Entries = append(a.Entries, a.Entries[last]) })
		l["a longer key"] = changed(func(a *api.Answer) { a.Entries[last].Key = append(a.Entries[last].Key, 0) })
		l["a longer value"] = changed(func(a *api.Answer) { a.Entries[0].Value = append(a.Entries[0].Value, 0) })
		l["key for value"] = changed(func(a *api.Answer) { e := &a.Entries[last]; e.Key, e.Value = e.Value, e.Key })
		l["no key"] = changed(func(a *api.Answer) { a.Entries[last].Key = nil })
		if last > 0 {
			l["turned round"] = changed(func(a *api.Answer) { slices.Reverse(a.Entries) })
			l["two changed places"] = changed(func(a *api.Answer) { a.Entries[0], a.Entries[1] = a.Entries[1], a.Entries[0] })
			l["values changed places"] = changed(func(a *api.Answer) {
				a.Entries[0].Value, a.Entries[last].Value = a.Entries[last].Value, a.Entries[0].Value
			})
		}
	}
	return l
}

// TestClaims: of the answer itself, and of those that differ in one thing.
func TestClaims(t *testing.T) {
	n := &noise{x: 62}
	m := garden()
	p := planOf(m)
	for _, s := range append(some(n, spansOf(bounds(m)), 60), all, span("3", "8"), only("3000002")) {
		proof, a := p.proof(s), answerOf(m, s)
		answers(t, "11.3: Claim of the answer", verify.Claim(p.root, s, a, proof), api.OK)
		for what, other := range others(a) {
			if !sameAnswer(a, other) {
				answers(t, "11.3: "+toldSpan(s)+": Claim of an answer: "+what, verify.Claim(p.root, s, other, proof), api.ErrAnswer)
			}
			answers(t, "11.3: Claim under another label: "+what, verify.Claim(none, s, other, proof), api.ErrLabel)
			answers(t, "11.3: Claim of a cut proof: "+what, verify.Claim(p.root, s, other, proof[:1]), api.ErrEnds)
		}
		for i, e := range a.Entries {
			for _, text := range [][]byte{e.Key, e.Value} {
				if len(text) == 0 {
					continue
				}
				at := n.below(len(text))
				text[at] ^= 1
				answers(t, "11.3: Claim of an answer with one byte changed", verify.Claim(p.root, s, a, proof), api.ErrAnswer)
				text[at] ^= 1
			}
			if i > 20 {
				break
			}
		}
		answers(t, "11.3: Claim of the answer, once more", verify.Claim(p.root, s, a, proof), api.OK)
	}
	empty := mapOf("a", "")
	q := planOf(empty)
	for _, e := range []api.Entry{{Key: []byte("a")}, {Key: []byte("a"), Value: []byte{}}} {
		answers(t, "11.3: Claim of an empty value", verify.Claim(q.root, all, api.Answer{Entries: []api.Entry{e}, Count: 1}, q.proof(all)), api.OK)
	}
}
