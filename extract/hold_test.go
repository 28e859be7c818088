package extract_test

import (
	"bytes"
	"testing"

	"witness/api"
	"witness/codec"
	"witness/extract"
	"witness/verify"
)

// tells holds Texts against the texts that a proof has.
func tells(t *testing.T, what string, in api.Span, p api.Proof, want [][]byte) {
	t.Helper()
	if l, e := extract.Texts(in, p); !sameTexts(l, want) || e != api.OK {
		t.Errorf("12.1: %s: Texts of %s: %s, %d, want %s, 0", what, toldSpan(in), told(l), e, told(want))
	}
}

// untold holds Texts against an error: there are no texts then.
func untold(t *testing.T, what string, in api.Span, p api.Proof, want api.Errno) {
	t.Helper()
	if l, e := extract.Texts(in, p); l != nil || e != want {
		t.Errorf("12.1: %s: Texts of %s: %s, %d, want none, %d", what, toldSpan(in), told(l), e, want)
	}
}

// holds holds Texts against the model, and what follows from the texts; it answers the model's error.
func holds(t *testing.T, what string, in api.Span, p api.Proof) api.Errno {
	t.Helper()
	want, e := rightly(in, proofBytes(p))
	if e != api.OK {
		untold(t, what, in, p, e)
		return e
	}
	tells(t, what, in, p, want)
	follows(t, what, in, codec.Proof(p))
	return api.OK
}

// follows holds that verify comes to the digests of a proof's texts, and to no others.
func follows(t *testing.T, what string, in api.Span, proof []byte) {
	t.Helper()
	p, _ := codec.ReadProof(proof)
	texts, e := extract.Texts(in, p)
	answers(t, "12.1: "+what+": Texts of what is read", e, api.OK)
	root := sumOf(texts[0])
	if _, e := verify.Span(root, in, proof); e != api.OK {
		t.Errorf("12.1: %s: verify does not take the proof of %s against its first text's digest: %d", what, toldSpan(in), e)
	}
	for _, text := range texts[1:min(len(texts), 7)] {
		if _, e := verify.Span(sumOf(text), in, proof); e != api.ErrLabel {
			t.Errorf("12.1: %s: verify answers %d for the proof of %s against the digest of another text", what, e, toldSpan(in))
			return
		}
	}
	root[len(proof)%32] ^= 4
	if _, e := verify.Span(root, in, proof); e != api.ErrLabel {
		t.Errorf("12.1: %s: verify answers %d for the proof of %s against another label", what, e, toldSpan(in))
	}
	led(t, what, texts)
}

// led holds that the digest of each text but the first stands in one ahead of it.
func led(t *testing.T, what string, texts [][]byte) {
	t.Helper()
	for i, text := range texts[1:] {
		sum := sumOf(text)
		ahead := i
		for ahead >= 0 && !bytes.Contains(texts[ahead], sum[:]) {
			ahead--
		}
		if ahead < 0 {
			t.Errorf("12.1: %s: the digest of text %d stands in none ahead of it: %s", what, i+1, told(texts))
			return
		}
	}
}

// honest holds Honest against the texts that a tree has in a span; and Texts of the same walk's proof, where that is one.
func (s store) honest(what string, x api.Tree, w *walk) {
	s.t.Helper()
	s.unchanged("12.2: "+what, func() {
		s.t.Helper()
		if l, e := extract.Honest(s.b, x, w.in); !sameTexts(l, w.texts) || e != api.OK {
			s.t.Errorf("12.2: %s: Honest of %s: %s, %d, want %s, 0", what, toldSpan(w.in), told(l), e, told(w.texts))
		}
	})
}

// dishonest holds Honest against an error: there are no texts then.
func (s store) dishonest(what string, x api.Tree, in api.Span, want api.Errno) {
	s.t.Helper()
	s.unchanged("12.2: "+what, func() {
		s.t.Helper()
		if l, e := extract.Honest(s.b, x, in); l != nil || e != want {
			s.t.Errorf("12.2: %s: Honest of %s: %s, %d, want none, %d", what, toldSpan(in), told(l), e, want)
		}
	})
}

// gives holds Span against an error: there are no twins then.
func (s store) gives(what string, x api.Tree, in api.Span, proof []byte, want api.Errno) {
	s.t.Helper()
	s.unchanged("12.3: "+what, func() {
		s.t.Helper()
		if w, e := extract.Span(s.b, x, in, proof); w.One != nil || w.Two != nil || e != want {
			s.t.Errorf("12.3: %s: Span of %s: %.20x, %.20x, %d, want none, %d", what, toldSpan(in), w.One, w.Two, e, want)
		}
	})
}
