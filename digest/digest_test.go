package digest_test

import (
	"bytes"
	"crypto/sha256"
	"strings"
	"testing"

	"witness/api"
	"witness/digest"
)

const (
	hexOfNothing = "e3b0c44298fc1c149afbf4c8996fb92427ae41e4649b934ca495991b7852b855"
	hexOfAbc     = "ba7816bf8f01cfea414140de5dae2223b00361a396177a9cb410ff61f20015ad"
)

// textOf is n bytes that look like noise and are the same in every run.
func textOf(n int) []byte {
	text := make([]byte, n)
	x := uint32(2*n + 1)
	for i := range text {
		x = x*1664525 + 1013904223
		text[i] = byte(x >> 24)
	}
	return text
}

func letters(letter string, n int) []byte { return []byte(strings.Repeat(letter, n)) }

func wantHex(t *testing.T, promise, what string, got api.Sum, want string) {
	t.Helper()
	if h := digest.Hex(got); h != want {
		t.Errorf("%s: %s: %s, want %s", promise, what, h, want)
	}
}

func TestOfExamples(t *testing.T) {
	for _, c := range []struct {
		what  string
		parts [][]byte
		want  string
	}{
		{"no part", nil, hexOfNothing},
		{"nil parts", [][]byte{nil, nil}, hexOfNothing},
		{"an empty part", [][]byte{{}}, hexOfNothing},
		{"abc", [][]byte{[]byte("abc")}, hexOfAbc},
		{"abc in parts", [][]byte{[]byte("a"), nil, []byte("bc")}, hexOfAbc},
		{"55 letters", [][]byte{letters("a", 55)}, "9f4390f8d30c2dd92ec9f095b65e2b9ae9b0a925a5258e241c9f1e910f734318"},
		{"56 letters", [][]byte{letters("a", 56)}, "b35439a4ac6f0948b6d6f9e3c6af0f5f590ce20f1bde7090ef7970686ec6738a"},
		{"64 letters", [][]byte{letters("a", 64)}, "ffe054fe7ae0cb6dc65c3af9b61d5209f439851db43d0ba5997337df154668eb"},
	} {
		wantHex(t, "1.1", c.what, digest.Of(c.parts...), c.want)
	}
}

func TestOfEveryShortLength(t *testing.T) {
	for n := range 400 {
		text := textOf(n)
		if digest.Of(text) != api.Sum(sha256.Sum256(text)) {
			t.Errorf("1.1: text of %d bytes", n)
		}
	}
}

// A text of more than 2^32 bits, so that its number of bits needs the upper half of its eight bytes.
func TestHashOfLongText(t *testing.T) {
	piece := textOf(1 << 20)
	h, want := digest.New(), sha256.New()
	for range 520 {
		h.Write(piece)
		want.Write(piece)
	}
	if h.Size() != 520<<20 || h.Sum() != api.Sum(want.Sum(nil)) {
		t.Errorf("1.1, 1.2: text of %d bytes", h.Size())
	}
}

func TestHashExample(t *testing.T) {
	h := digest.New()
	wantHex(t, "1.2", "of nothing", h.Sum(), hexOfNothing)
	if h.Size() != 0 {
		t.Errorf("1.2: Size of nothing = %d", h.Size())
	}
	h.Write([]byte("ab"))
	f := h.Fork()
	f.Write([]byte("x"))
	h.Write([]byte("c"))
	wantHex(t, "1.2", "ab, c", h.Sum(), hexOfAbc)
	if h.Size() != 3 || f.Size() != 3 {
		t.Errorf("1.2: sizes %d and %d, want 3 and 3", h.Size(), f.Size())
	}
	if f.Sum() != digest.Of([]byte("abx")) {
		t.Errorf("1.2: the fork sees what the other one was written")
	}
	h.Reset()
	wantHex(t, "1.2", "behind Reset", h.Sum(), hexOfNothing)
	if h.Size() != 0 {
		t.Errorf("1.2: Size behind Reset = %d", h.Size())
	}
	if f.Size() != 3 || f.Sum() != digest.Of([]byte("abx")) {
		t.Errorf("1.2: Reset is seen in a fork")
	}
}

func TestHashSumChangesNothing(t *testing.T) {
	text := textOf(200)
	h := digest.New()
	for n := range text {
		if one, two := h.Sum(), h.Sum(); one != two || one != digest.Of(text[:n]) {
			t.Fatalf("1.2: Sum behind %d bytes", n)
		}
		if h.Size() != uint64(n) {
			t.Fatalf("1.2: Size = %d, want %d", h.Size(), n)
		}
		h.Write(text[n : n+1])
		h.Write(nil)
		h.Write([]byte{})
	}
}

func TestHashResetBehindAnyLength(t *testing.T) {
	h := digest.New()
	for n := range 200 {
		h.Write(textOf(n))
		h.Reset()
		h.Write([]byte("abc"))
		wantHex(t, "1.2", "abc behind Reset", h.Sum(), hexOfAbc)
		h.Reset()
	}
}

func TestForksGoOnByThemselves(t *testing.T) {
	text := textOf(150)
	for n := range text {
		h := digest.New()
		h.Write(text[:n])
		one := h.Fork()
		two := one.Fork()
		one.Write(text[n:])
		two.Write(letters("x", 70))
		h.Reset()
		if one.Sum() != digest.Of(text) || two.Sum() != digest.Of(text[:n], letters("x", 70)) {
			t.Fatalf("1.2: forks behind %d bytes", n)
		}
		if one.Size() != 150 || two.Size() != uint64(n+70) {
			t.Fatalf("1.2: sizes %d and %d of forks behind %d bytes", one.Size(), two.Size(), n)
		}
	}
}

func TestAnyCutOfAText(t *testing.T) {
	text := textOf(197)
	want := digest.Of(text)
	for i := range len(text) + 1 {
		for j := i; j <= len(text); j++ {
			if digest.Of(text[:i], text[i:j], text[j:]) != want {
				t.Fatalf("1.3: Of, cut at %d and %d", i, j)
			}
			h := digest.New()
			h.Write(text[:i])
			h = h.Fork()
			h.Write(text[i:j])
			h.Sum()
			h.Size()
			h.Fork().Write([]byte("beside"))
			h.Write(text[j:])
			if h.Sum() != want {
				t.Fatalf("1.3: Hash, cut at %d and %d", i, j)
			}
		}
	}
}

func TestPiecesOfEverySize(t *testing.T) {
	text := textOf(1000)
	want := digest.Of(text)
	for size := 1; size <= len(text); size++ {
		h := digest.New()
		var parts [][]byte
		for at := 0; at < len(text); at += size {
			piece := text[at:min(at+size, len(text))]
			parts = append(parts, piece)
			h.Write(piece)
		}
		if h.Sum() != want || digest.Of(parts...) != want {
			t.Fatalf("1.3: pieces of %d bytes", size)
		}
	}
}

func TestWriteKeepsNothing(t *testing.T) {
	text := textOf(100)
	h := digest.New()
	h.Write(text)
	clear(text)
	if h.Sum() != digest.Of(textOf(100)) {
		t.Errorf("1.2, 1.10: a Hash sees what is changed behind Write")
	}
}

// checkUntouched hands use the first n bytes of a longer list, and looks whether any of the list was changed.
func checkUntouched(t *testing.T, what string, n int, use func(b []byte)) {
	t.Helper()
	list := textOf(n + 100)
	use(list[:n])
	if !bytes.Equal(list, textOf(n+100)) {
		t.Errorf("1.10: %s changes its argument or what lies behind it (%d bytes)", what, n)
	}
}

func TestArgumentsStayAsTheyAre(t *testing.T) {
	for _, n := range []int{0, 1, 3, 55, 56, 63, 64, 65, 130} {
		checkUntouched(t, "Of", n, func(b []byte) { digest.Of(b, b) })
		checkUntouched(t, "Write", n, func(b []byte) {
			h := digest.New()
			h.Write(b)
			h.Write(b)
			h.Sum()
		})
		checkUntouched(t, "Mac's key", n, func(b []byte) { digest.Mac(b, []byte("text")) })
		checkUntouched(t, "Mac's text", n, func(b []byte) { digest.Mac([]byte("key"), b) })
		checkUntouched(t, "Check", n, func(b []byte) { digest.Check(b, b) })
		checkUntouched(t, "More", n, func(b []byte) { digest.More(1, b) })
	}
}

func TestListOfPartsStaysAsItIs(t *testing.T) {
	one, two := []byte("one"), []byte("two")
	parts := [][]byte{one, nil, two, []byte("behind")}
	digest.Of(parts[:3]...)
	digest.Check(parts[:3]...)
	if &parts[0][0] != &one[0] || parts[1] != nil || &parts[2][0] != &two[0] || string(parts[3]) != "behind" {
		t.Errorf("1.10: the list of parts is changed")
	}
}
