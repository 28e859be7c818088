package prove_test

import (
	"bytes"
	"testing"

	"witness/api"
	"witness/prove"
)

// roomy is a text with spare room, in which something stands.
func roomy(text string) []byte {
	b := append([]byte(text), "spare"...)
	return b[:len(text)]
}

// isRoomy tells whether a text and its spare room are as roomy made them.
func isRoomy(b []byte, text string) bool {
	return string(b) == text && string(b[:len(b)+5]) == text+"spare"
}

// scratch overwrites a text, with its spare room.
func scratch(b []byte) {
	b = b[:cap(b)]
	for i := range b {
		b[i] ^= 0xa5
	}
}

// TestWhatIsHandedIn is neither changed nor kept.
func TestWhatIsHandedIn(t *testing.T) {
	s := wide(t)
	m := mapOf("a", "1", "b", "2", "c", "3", "e", "5")
	x := s.planted(m)
	for _, open := range []bool{false, true} {
		in := api.Span{Lo: roomy("b"), Hi: roomy("e"), Open: open}
		want := api.Proof{Count: 4, Ops: planOf(m).walk(in).ops}
		p, e := prove.Ops(s.b, x, in)
		answers(t, "10.1: Ops", e, api.OK)
		l, e := prove.Span(s.b, x, in)
		answers(t, "10.2: Span", e, api.OK)
		s.proves("a span with spare room", x, in, want)
		if !isRoomy(in.Lo, "b") || !isRoomy(in.Hi, "e") {
			t.Errorf("0.4: a span that is handed in is now %v", in)
		}
		scratch(in.Lo)
		scratch(in.Hi)
		if !sameProof(p, want) || !bytes.Equal(l, proofBytes(want)) {
			t.Errorf("0.4: a proof is another one, once its span was changed: %s", toldProof(p))
		}
	}
	key := roomy("c")
	l, e := prove.Key(s.b, x, key)
	only := prove.Only(key)
	if !isRoomy(key, "c") || e != api.OK {
		t.Errorf("0.4: a key that is handed in is now %q", key)
	}
	scratch(key)
	if want := proofBytes(api.Proof{Count: 4, Ops: planOf(m).walk(span("c", "c\x00")).ops}); !bytes.Equal(l, want) {
		t.Errorf("0.4: a key's proof is another one, once the key was changed")
	}
	if string(only.Lo) != "c" || string(only.Hi) != "c\x00" {
		t.Errorf("0.4: Only is %s, once the key was changed", toldSpan(only))
	}
}

// TestWhatIsHandedOut is new memory, spare room included.
func TestWhatIsHandedOut(t *testing.T) {
	s := wide(t)
	m := garden()
	x := s.planted(m)
	for _, in := range []api.Span{all, span("2", "8"), from("zz"), span("", "\x00")} {
		want := api.Proof{Count: x.Count, Ops: planOf(m).walk(in).ops}
		p, _ := prove.Ops(s.b, x, in)
		other, _ := prove.Ops(s.b, x, in)
		for i, o := range p.Ops {
			if !sameOp(o, want.Ops[i]) {
				t.Fatalf("0.4: the ops of %s share memory", toldSpan(in))
			}
			scratch(o.Key)
			if !bytes.Equal(o.Value, want.Ops[i].Value) {
				t.Fatalf("0.4: an op's key shares memory with its value")
			}
			scratch(o.Value)
		}
		clear(p.Ops[:cap(p.Ops)])
		if !sameProof(other, want) {
			t.Errorf("0.4: two proofs of %s share memory", toldSpan(in))
		}
		l, _ := prove.Span(s.b, x, in)
		again, _ := prove.Span(s.b, x, in)
		scratch(l)
		if !bytes.Equal(again, proofBytes(want)) {
			t.Errorf("0.4: the bytes of two proofs of %s share memory", toldSpan(in))
		}
		s.proves("behind all that", x, in, want)
	}
}

// TestOnlyIsNewMemory: its bounds share none with the key, nor with one another.
func TestOnlyIsNewMemory(t *testing.T) {
	for _, text := range []string{"", "key", string(make([]byte, api.MaxKey))} {
		key := roomy(text)
		in := prove.Only(key)
		scratch(in.Lo)
		if !isRoomy(key, text) || string(in.Hi) != text+"\x00" {
			t.Errorf("0.4: Lo of Only(%.20q) shares memory", text)
		}
		in = prove.Only(key)
		scratch(in.Hi)
		if !isRoomy(key, text) || string(in.Lo) != text {
			t.Errorf("0.4: Hi of Only(%.20q) shares memory", text)
		}
	}
}
