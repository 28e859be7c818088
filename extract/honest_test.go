package extract_test

import (
	"slices"
	"strings"
	"testing"

	"witness/api"
	"witness/blobs"
	"witness/extract"
	"witness/prove"
	"witness/skip"
)

// ownProof holds that the texts of a tree's own proof are those of its walk.
func (s store) ownProof(what string, x api.Tree, in api.Span) {
	s.t.Helper()
	p, e := prove.Ops(s.b, x, in)
	answers(s.t, "10.1: Ops", e, api.OK)
	honest, e := extract.Honest(s.b, x, in)
	answers(s.t, "12.2: Honest", e, api.OK)
	tells(s.t, what+", its own proof", in, p, honest)
}

// TestTreesOfMaps: of maps of all shapes and all sorts of spans, the texts of the walk, which are those of the tree's own proof.
func TestTreesOfMaps(t *testing.T) {
	n := &noise{x: 20}
	for what, m := range kindsOfMaps(n) {
		s := wide(t)
		x, p := s.planted(m), planOf(m)
		if x != p.tree {
			t.Fatalf("8.9: %s has another tree", what)
		}
		l := append(some(n, spansOf(bounds(m)), 60), all, from(strings.Repeat("\xff", 1025)), span("", strings.Repeat("\xff", 1025)))
		for _, key := range some(n, sortedKeys(m), 20) {
			l = append(l, only(key))
		}
		for _, in := range l {
			s.honest(what, x, p.walk(in))
			s.ownProof(what, x, in)
			s.gives(what, x, in, proofBytes(p.proof(in)), api.ErrHonest)
		}
		if t.Failed() {
			t.FailNow()
		}
	}
}

// TestSpansWithoutKeys: ahead of all keys, behind all, between two; and of the map without keys.
func TestSpansWithoutKeys(t *testing.T) {
	s := wide(t)
	m := mapOf("b", "1", "d", "2", "f", "3")
	x, p := s.planted(m), planOf(m)
	for _, in := range []api.Span{
		span("", "b"), span("", "\x00"), span("a", "b"), span("b\x00", "d"), span("c", "ca"), span("d\x00", "d\x00\x00"),
		span("f\x00", "g"), from("f\x00"), from("g"), from(strings.Repeat("\xff", api.MaxKey+1)),
	} {
		s.honest("a span without keys", x, p.walk(in))
		s.ownProof("a span without keys", x, in)
		l, _ := extract.Honest(s.b, x, in)
		if slices.ContainsFunc(l, func(text []byte) bool { return text[0] == 1 }) {
			t.Errorf("12.2: there is a value among the texts of %s: %s", toldSpan(in), told(l))
		}
	}
	empty, e := skip.Empty(s.b)
	answers(t, "8.1: Empty", e, api.OK)
	want := [][]byte{rootText(0, sumOf([]byte{0x12})), {0x12}}
	for _, in := range []api.Span{all, from("k"), span("", "k"), span("k", "l"), only(""), only(strings.Repeat("k", api.MaxKey))} {
		if l, e := extract.Honest(s.b, empty, in); !sameTexts(l, want) || e != api.OK {
			t.Errorf("12.2: the map without keys: %s: %s, %d, want %s, 0", toldSpan(in), told(l), e, told(want))
		}
		tells(t, "the map without keys", in, proofOf(0, head), want)
	}
}

// TestBoundsAtKeys: those that are equal to keys, and those next to them.
func TestBoundsAtKeys(t *testing.T) {
	n := &noise{x: 21}
	for _, m := range []map[string]string{garden(), fan(true), chain(9), longKeys(), mapOf("", "0", "a", "1", "b", "2")} {
		s := wide(t)
		x, p := s.planted(m), planOf(m)
		keys := sortedKeys(m)
		for i, key := range keys {
			next := keys[min(i+1, len(keys)-1)]
			for _, in := range []api.Span{from(key), from(key + "\x00"), only(key), span(key, next), span("", key), span(key, key+"\x00\x00"), span(key, key+"\xff")} {
				if unfit(in) == api.OK {
					s.honest("a bound at a key", x, p.walk(in))
				}
			}
		}
		for _, in := range some(n, spansOf(keys), 60) {
			s.honest("bounds at keys", x, p.walk(in))
		}
	}
}

// TestTheEmptyKey: it is not above the beginning of the Open span from the empty key on, and lies in it.
func TestTheEmptyKey(t *testing.T) {
	s := wide(t)
	m := mapOf("", "empty", "a", "1", "b", "2")
	x, p := s.planted(m), planOf(m)
	w := p.walk(all)
	kinds := []int{}
	for _, op := range w.ops {
		kinds = append(kinds, op.Kind)
	}
	if !slices.Equal(kinds, []int{api.OpBoth, api.OpRight, api.OpIn, api.OpBoth, api.OpIn, api.OpIn}) {
		t.Fatalf("the kinds of the walk's ops are %v", kinds)
	}
	s.honest("the empty key", x, w)
	s.ownProof("the empty key", x, all)
	l, _ := extract.Honest(s.b, x, all)
	if slices.ContainsFunc(l, func(text []byte) bool { return text[0] == 0x12 }) {
		t.Errorf("12.2: the head's own text is among them: %s", told(l))
	}
	if !sameTexts(extract.MapTexts(listOf(m)), l) {
		t.Errorf("12.5: the texts of the map are %s, want %s", told(extract.MapTexts(listOf(m))), told(l))
	}
}

// TestSpansThatAreNotFit are told ahead of all that can be wrong with a tree or a proof.
func TestSpansThatAreNotFit(t *testing.T) {
	s := wide(t)
	x := s.planted(three())
	long, tooLong := strings.Repeat("k", api.MaxKey+1), strings.Repeat("k", api.MaxKey+2)
	refused := func(x api.Tree) {
		t.Helper()
		for _, c := range []struct {
			in   api.Span
			want api.Errno
		}{
			{api.Span{}, api.ErrBounds}, {span("x", "x"), api.ErrBounds}, {span("b", "a"), api.ErrBounds}, {span("ab", "a"), api.ErrBounds}, {span("\x80", "\x7f"), api.ErrBounds}, {span("a", ""), api.ErrBounds}, {span(long, long), api.ErrBounds},
			{from(tooLong), api.ErrLimit}, {span(tooLong, "z"), api.ErrLimit}, {span("a", tooLong), api.ErrLimit}, {span(tooLong, "a"), api.ErrLimit}, {span("z", tooLong), api.ErrLimit}, {span(tooLong, tooLong), api.ErrLimit},
		} {
			s.dishonest("a span that is not fit", x, c.in, c.want)
			for _, proof := range [][]byte{nil, {0, 3}, {0, 7}, make([]byte, api.MaxProof+1)} {
				s.gives("a span that is not fit", x, c.in, proof, c.want)
			}
		}
	}
	refused(x)
	for _, in := range []api.Span{from(long), span("a", long), span(long[:1024], long), {Lo: []byte("b"), Hi: []byte(tooLong), Open: true}, {Lo: []byte("b"), Hi: []byte("a"), Open: true}} {
		s.honest("a span at its bound", x, planOf(three()).walk(in))
	}
	refused(api.Tree{})
	s.off()
	refused(x)
}

// TestNoBlobs: where there are none there is no tree.
func TestNoBlobs(t *testing.T) {
	p := planOf(three())
	for _, b := range []*blobs.Blobs{nil, {}} {
		if l, e := extract.Honest(b, p.tree, all); l != nil || e != api.ErrTree {
			t.Errorf("0.1: Honest without blobs: %s, %d", told(l), e)
		}
		if l, e := extract.Honest(b, p.tree, span("b", "a")); l != nil || e != api.ErrBounds {
			t.Errorf("0.1: Honest without blobs, of a span that is not fit: %s, %d", told(l), e)
		}
		if w, e := extract.Span(b, p.tree, all, proofBytes(p.proof(all))); w.One != nil || w.Two != nil || e != api.ErrTree {
			t.Errorf("0.1: Span without blobs: %x, %x, %d", w.One, w.Two, e)
		}
		if w, e := extract.Span(b, p.tree, all, nil); w.One != nil || w.Two != nil || e != api.ErrShort {
			t.Errorf("0.1: Span without blobs and without a proof: %x, %x, %d", w.One, w.Two, e)
		}
	}
}

// TestOlderTrees: each tree of a store has its own texts, whatever came behind it.
func TestOlderTrees(t *testing.T) {
	s := wide(t)
	x, _ := skip.Empty(s.b)
	m := map[string]string{}
	for _, key := range shuffled(&noise{x: 22}, sortedKeys(garden())) {
		older, p := x, planOf(m)
		m[key] = "value of " + key
		var e api.Errno
		x, e = skip.Put(s.b, x, []byte(key), []byte(m[key]))
		answers(t, "8.5: Put", e, api.OK)
		for _, in := range []api.Span{all, span("2", "8"), from("5"), only("6")} {
			s.honest("an older tree", older, p.walk(in))
			s.honest("the newest tree", x, planOf(m).walk(in))
		}
	}
}
