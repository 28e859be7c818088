package mirror_test

import (
	"bytes"
	"testing"

	"witness/api"
	"witness/mirror"
	"witness/vault"
)

// roomy is bytes with spare room, in which something stands.
func roomy(b []byte) []byte { return append(bytes.Clone(b), "spare"...)[:len(b)] }

// isRoomy tells whether bytes and their spare room are as roomy made them.
func isRoomy(b, want []byte) bool {
	return bytes.Equal(b, want) && string(b[:len(b)+5][len(b):]) == "spare"
}

// scratch overwrites bytes, with their spare room.
func scratch(b []byte) {
	b = b[:cap(b)]
	for i := range b {
		b[i] ^= 0xa5
	}
}

// hearsRoomy hands an answer in with spare room, and overwrites it then; what is asked is overwritten too.
func hearsRoomy(t *testing.T, m *mirror.Mirror, v *vault.Vault, refuse bool) {
	t.Helper()
	q, ok := m.Ask()
	if !ok {
		t.Fatal("18.4: nothing is asked")
	}
	want := bytes.Clone(q)
	scratch(q)
	again, _ := m.Ask()
	if !bytes.Equal(again, want) {
		t.Fatalf("0.4: Ask hands out what is kept: %x, want %x", again, want)
	}
	asked := roomy(again)
	answer := mirror.Serve(v, asked)
	other := mirror.Serve(v, asked)
	if !isRoomy(asked, again) {
		t.Fatal("0.4: Serve changes what is handed in")
	}
	scratch(asked)
	right := bytes.Clone(answer)
	scratch(answer)
	if !bytes.Equal(other, right) || !bytes.Equal(mirror.Serve(v, again), right) {
		t.Fatal("0.4: two answers of Serve share memory")
	}
	if refuse {
		right = no(api.ErrProof)
	}
	b := roomy(right)
	must(t, "18.5: Hear", m.Hear(b))
	if !isRoomy(b, right) {
		t.Fatal("0.4: Hear changes what is handed in")
	}
	scratch(b)
}

// TestMemory: what is handed in is not changed and not kept, and what is handed out is new memory.
func TestMemory(t *testing.T) {
	v, w := some(t, 9), some(t, 9)
	m := mirror.New(w, api.Head{})
	for i, l := range [][]api.Edit{{edit("a", "1"), edit("p", "2"), edit("\x90", "3")}, {edit("b", "x"), gone("p")}, {edit("", "y")}} {
		commits(t, v, l...)
		if i == 2 {
			must(t, "16.10: Retain", v.Retain(1)) // so that proofs are asked for
		}
		starts(t, m)
		for {
			q, ok := m.Ask()
			if !ok {
				break
			}
			s := read(t, q).Span
			hearsRoomy(t, m, v, read(t, q).Kind == api.AskProof && len(s.Lo)+len(s.Hi) == 0)
		}
		followed(t, "overwritten", m, w, v)
	}
	if h := m.Trusted(); h != headOf(t, v) {
		t.Errorf("18.2: Trusted = %v", h)
	}
	for _, b := range [][]byte{nil, {api.AskHead}, no(5), {0}} { // errors too
		one, two := mirror.Serve(v, b), mirror.Serve(v, b)
		want := bytes.Clone(two)
		scratch(one)
		if !bytes.Equal(two, want) {
			t.Error("0.4: two answers of Serve share memory")
		}
	}
}

// TestTwoMirrors: mirrors over two vaults know nothing of one another, and one vault is served to both.
func TestTwoMirrors(t *testing.T) {
	v := threeVersions(t)
	w, x := some(t, 9), some(t, 9)
	one, two := mirror.New(w, api.Head{}), mirror.New(x, api.Head{})
	starts(t, one)
	starts(t, two)
	must(t, "18.5: Hear", answered(t, one, v))
	asks(t, "0.3: the other mirror", two, api.Message{Kind: api.AskHead})
	is(t, "0.3: the first one", rest(t, one, v), "leaf proof nil")
	followed(t, "the first one", one, w, v)
	if n, ok := two.Done(); n != 0 || ok || newest(t, x).Number != 0 {
		t.Errorf("0.3: Done = %d, %v", n, ok)
	}
	is(t, "0.3: the other one", rest(t, two, v), "head leaf proof nil")
	followed(t, "the other one", two, x, v)
}
