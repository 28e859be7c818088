package verify_test

import (
	"bytes"
	"slices"
	"sync"
	"testing"

	"witness/api"
	"witness/verify"
)

// roomy is a text with spare room, in which something stands.
func roomy(text string) []byte {
	b := append([]byte(text), "spare"...)
	return b[:len(text)]
}

// isRoomy tells whether a text and its spare room are as roomy made them.
func isRoomy(b []byte, text string) bool {
	return string(b) == text && string(b[:len(b)+5]) == text+"spare"
}

// scratch overwrites a text, with its spare room.
func scratch(b []byte) {
	b = b[:cap(b)]
	for i := range b {
		b[i] ^= 0xa5
	}
}

func cloned(a api.Answer) api.Answer {
	l := slices.Clone(a.Entries)
	for i, e := range l {
		l[i] = api.Entry{Key: bytes.Clone(e.Key), Value: bytes.Clone(e.Value)}
	}
	return api.Answer{Entries: l, Rank: a.Rank, Count: a.Count}
}

// TestWhatIsHandedIn is neither changed nor kept, whether the proof is taken or not.
func TestWhatIsHandedIn(t *testing.T) {
	m := garden()
	p := planOf(m)
	for _, open := range []bool{false, true} {
		s := api.Span{Lo: roomy("2"), Hi: roomy("8"), Open: open}
		text := string(p.proof(s))
		want := answerOf(m, s)
		for _, root := range []api.Sum{p.root, none} {
			for _, cut := range []int{len(text), len(text) - 1, 1, 0} {
				proof := roomy(text[:cut])
				a, e := verify.Span(root, s, proof)
				claimed := cloned(want)
				f := verify.Claim(root, s, claimed, proof)
				if e != f || (e == api.OK) != (root == p.root && cut == len(text)) {
					t.Errorf("11.1: a proof with spare room: %d, %d", e, f)
				}
				if !isRoomy(proof, text[:cut]) || !isRoomy(s.Lo, "2") || !isRoomy(s.Hi, "8") {
					t.Errorf("0.4: a proof or a span that is handed in is changed")
				}
				if !sameAnswer(claimed, want) {
					t.Errorf("0.4: an answer that is handed in is changed")
				}
				scratch(proof)
				if e == api.OK && !sameAnswer(a, want) {
					t.Errorf("0.4: an answer is another one, once its proof was changed")
				}
			}
		}
		a, _ := verify.Span(p.root, s, []byte(text))
		scratch(s.Lo)
		scratch(s.Hi)
		if !sameAnswer(a, want) {
			t.Errorf("0.4: an answer is another one, once its span was changed")
		}
	}
	for _, name := range []string{p.keys[0], p.keys[9], p.keys[9] + "none"} {
		key, proof := roomy(name), roomy(string(p.proof(only(name))))
		v, there, e := verify.Key(p.root, key, proof)
		if !isRoomy(key, name) || !isRoomy(proof, string(p.proof(only(name)))) || e != api.OK {
			t.Errorf("0.4: a key or a proof that is handed in is changed: %q, %d", key, e)
		}
		scratch(key)
		scratch(proof)
		if value, has := m[name]; string(v) != value || there != has {
			t.Errorf("0.4: a value is another one, once the key and the proof were changed")
		}
	}
}

// TestWhatIsHandedOut is new memory, spare room included.
func TestWhatIsHandedOut(t *testing.T) {
	n := &noise{x: 80}
	for _, m := range []map[string]string{garden(), chain(20), n.chance(30), longKeys()} {
		p := planOf(m)
		for _, s := range append(some(n, spansOf(bounds(m)), 10), all) {
			proof, want := p.proof(s), answerOf(m, s)
			a, e := verify.Span(p.root, s, proof)
			answers(t, "11.1: Span", e, api.OK)
			other, _ := verify.Span(p.root, s, proof)
			for i, e := range a.Entries {
				if !sameEntry(e, want.Entries[i]) {
					t.Fatalf("0.4: the entries of %s share memory", toldSpan(s))
				}
				scratch(e.Key)
				if !bytes.Equal(e.Value, want.Entries[i].Value) {
					t.Fatalf("0.4: a key shares memory with its value")
				}
				scratch(e.Value)
			}
			clear(a.Entries[:cap(a.Entries)])
			if !sameAnswer(other, want) || !bytes.Equal(proof, p.proof(s)) {
				t.Errorf("0.4: an answer shares memory with another one, or with its proof")
			}
			takes(t, "behind all that", p.root, s, proof, want)
		}
		for _, key := range p.keys[:5] {
			proof := p.proof(only(key))
			v, _, _ := verify.Key(p.root, []byte(key), proof)
			again, _, _ := verify.Key(p.root, []byte(key), proof)
			scratch(v)
			if string(again) != m[key] || !bytes.Equal(proof, p.proof(only(key))) {
				t.Errorf("0.4: a value shares memory with another one, or with its proof")
			}
		}
	}
}

// TestManyAtOneTime: what a call answers hangs on its arguments alone, whatever others are asking.
func TestManyAtOneTime(t *testing.T) {
	n := &noise{x: 81}
	type question struct {
		root  api.Sum
		s     api.Span
		proof []byte
	}
	var questions []question
	for _, m := range someMaps(n) {
		p := planOf(m)
		for _, s := range some(n, spansOf(bounds(m)), 20) {
			proof := p.proof(s)
			questions = append(questions, question{p.root, s, proof}, question{none, s, proof}, question{p.root, s, proof[:n.below(len(proof))]}, question{p.root, all, proof})
		}
	}
	var group sync.WaitGroup
	for range 8 {
		order := shuffled(n, questions)
		group.Add(1)
		go func() {
			defer group.Done()
			for _, q := range order {
				root, want, e := rightly(q.s, q.proof)
				if e == api.OK && root != q.root {
					e, want = api.ErrLabel, api.Answer{}
				}
				if a, got := verify.Span(q.root, q.s, q.proof); got != e || !sameAnswer(a, want) {
					t.Errorf("11.4: %s, %d, want %s, %d", toldAnswer(a), got, toldAnswer(want), e)
				}
			}
		}()
	}
	group.Wait()
}
