package mirror_test

import (
	"testing"

	"witness/annals"
	"witness/api"
	"witness/mirror"
	"witness/vault"
)

// threeVersions is the chapter's V.
func threeVersions(t *testing.T) *vault.Vault {
	t.Helper()
	v := some(t, 3)
	commits(t, v, edit("a", "1"))
	commits(t, v, edit("b", "2"))
	return v
}

// TestExamples: the chapter's, 1 to 9, one behind the other.
func TestExamples(t *testing.T) {
	v, w := threeVersions(t), some(t, 9)
	m := mirror.New(w, api.Head{})
	idle(t, "example 1", m)
	fails(t, "example 1: Hear", m.Hear([]byte("x")), api.ErrIdle)
	if n, ok := m.Done(); n != 0 || ok {
		t.Fatalf("example 1: Done = %d, %v", n, ok)
	}
	starts(t, m)
	if q, ok := m.Ask(); !ok || string(q) != "\x01" {
		t.Fatalf("example 1: Ask = %x, %v", q, ok)
	}

	label := labelOf(t, map[string]string{"a": "1", "b": "2"})
	leaves := []api.Leaf{{Version: 0, Label: labelOf(t, nil)}, {Version: 1, Label: labelOf(t, map[string]string{"a": "1"})}, {Version: 2, Label: label}}
	serves := func(q []byte, want api.Message) {
		t.Helper()
		is(t, "example 2: Serve", words(read(t, mirror.Serve(v, q))), words(want))
	}
	serves([]byte{1}, api.Message{Kind: api.SayHead, Version: 2, Count: 2, Label: label, Head: annals.Over(leaves)})
	serves(nil, api.Message{Kind: api.SayNo, Code: api.ErrShort})
	serves(no(api.ErrLimit), api.Message{Kind: api.SayNo, Code: api.ErrMessage})
	serves(say(api.Message{Kind: api.AskLeaf, Version: 3}), api.Message{Kind: api.SayNo, Code: api.ErrVersion})
	serves(say(api.Message{Kind: api.AskDelta, Other: 9, Version: 2}), api.Message{Kind: api.SayNo, Code: api.ErrVersion})

	must(t, "example 3: Hear", answered(t, m, v))
	asks(t, "example 3", m, api.Message{Kind: api.AskLeaf, Version: 2})
	must(t, "example 3: Hear", answered(t, m, v))
	asks(t, "example 3", m, api.Message{Kind: api.AskProof, Version: 2, Span: all})
	must(t, "example 3: Hear", answered(t, m, v))
	followed(t, "example 3", m, w, v)
	if n := newest(t, w); n.Number != 1 || n.Tree.Label != label {
		t.Fatalf("example 3: the copy is version %d", n.Number)
	}

	commits(t, v, gone("a"))
	starts(t, m)
	for _, want := range []api.Message{{Kind: api.AskHead}, {Kind: api.AskExtends, Other: 3}, {Kind: api.AskLeaf, Version: 3}, {Kind: api.AskDelta, Other: 2, Version: 3}} {
		asks(t, "example 4", m, want)
		must(t, "example 4: Hear", answered(t, m, v))
	}
	followed(t, "example 4", m, w, v)
	if n := newest(t, w); n.Number != 2 || n.Tree.Count != 1 {
		t.Fatalf("example 4: the copy is version %d", n.Number)
	}

	is(t, "example 6", round(t, m, v), "head leaf nil")
	if n := newest(t, w); n.Number != 2 {
		t.Fatalf("example 6: the copy is version %d", n.Number)
	}

	commits(t, v, edit("c", "3"))
	must(t, "16.10: Retain", v.Retain(1))
	starts(t, m)
	until(t, m, v, api.AskDelta)
	asks(t, "example 5", m, api.Message{Kind: api.AskDelta, Other: 3, Version: 4})
	q, _ := m.Ask()
	serves(q, api.Message{Kind: api.SayNo, Code: api.ErrVersion})
	is(t, "example 5", rest(t, m, v), "delta proof nil")
	followed(t, "example 5", m, w, v)
}

// TestLieExamples: the chapter's 7 to 9.
func TestLieExamples(t *testing.T) {
	v := threeVersions(t)
	m, w := following(t, v)
	trusted, before := m.Trusted(), everything(t, w)
	for _, b := range []string{"", "x", "\x01", string(say(api.Message{Kind: api.SayLeaf})), string(mirror.Serve(v, []byte{1})) + "\x00"} {
		starts(t, m)
		fails(t, "example 7: Hear", m.Hear([]byte(b)), api.ErrMessage)
		idle(t, "example 7", m)
	}
	two := annals.Over([]api.Leaf{{Version: 0, Label: labelOf(t, nil)}, {Version: 1, Label: labelOf(t, map[string]string{"a": "1"})}})
	for i, x := range []api.Message{
		{Kind: api.SayHead, Version: 1, Head: two},
		{Kind: api.SayHead, Version: 2, Head: api.Head{Size: 3, Label: two.Label}},
		{Kind: api.SayHead, Version: 5, Head: api.Head{Size: 5, Label: two.Label}},
	} {
		starts(t, m)
		fails(t, "example 8: Hear", m.Hear(say(x)), api.ErrTrust)
		idle(t, "example 8", m)
		if m.Trusted() != trusted || everything(t, w) != before {
			t.Fatalf("example 8: row %d: something has changed", i)
		}
	}
	commits(t, v, edit("a", "6"))
	starts(t, m)
	until(t, m, v, api.AskDelta)
	must(t, "example 9: Hear", m.Hear(say(api.Message{Kind: api.SayDelta, Changes: []api.Change{{Key: []byte("a"), Has: true, New: []byte("7")}}})))
	asks(t, "example 9", m, api.Message{Kind: api.AskProof, Version: 3, Span: all})
	is(t, "example 9: the copy", everything(t, w), before)
	is(t, "example 9", rest(t, m, v), "proof nil")
	followed(t, "example 9", m, w, v)
}
