package extract_test

import (
	"bytes"
	"fmt"
	"slices"
	"strings"
	"testing"

	"witness/api"
	"witness/codec"
	"witness/extract"
)

// TestHonestProofs: of all spans of a map there is nothing to extract out of its own proof.
func TestHonestProofs(t *testing.T) {
	n := &noise{x: 40}
	for _, m := range someMaps(n) {
		s := wide(t)
		x, p := s.planted(m), planOf(m)
		for _, in := range append(some(n, spansOf(bounds(m)), 400), all) {
			s.gives("an honest proof", x, in, proofBytes(p.proof(in)), api.ErrHonest)
		}
	}
}

// refusal is the error that verify has for a proof which is not a tree's own.
func refusal(x api.Tree, in api.Span, proof []byte) api.Errno {
	texts, e := rightly(in, proof)
	if e == api.OK && sumOf(texts[0]) != x.Label {
		return api.ErrLabel
	}
	return e
}

// TestChangedProofs: bytes changed, cut off, laid behind; what is told is verify's error.
func TestChangedProofs(t *testing.T) {
	n := &noise{x: 41}
	met := map[api.Errno]int{}
	for _, m := range someMaps(n) {
		s := wide(t)
		x, p := s.planted(m), planOf(m)
		for _, in := range append(some(n, spansOf(bounds(m)), 3), all) {
			proof := proofBytes(p.proof(in))
			wrong := map[string][]byte{"twice": cat(proof, proof), "its ops twice": cat(proof, proof[1:])}
			for i := range proof {
				changed := bytes.Clone(proof)
				changed[i] += byte(1 + n.below(255))
				wrong[fmt.Sprint("with byte ", i, " changed")] = changed
				wrong[fmt.Sprint("its first ", i, " bytes")] = proof[:i]
			}
			for b := range 10 {
				wrong[fmt.Sprint("with the byte behind it ", b)] = append(slices.Clip(proof), byte(b))
			}
			for what, wrong := range wrong {
				e := refusal(x, in, wrong)
				if e == api.OK {
					t.Fatalf("the model takes the proof of %s, %s", toldSpan(in), what)
				}
				met[e]++
				s.gives("a proof "+what, x, in, wrong, e)
			}
		}
		if t.Failed() {
			t.FailNow()
		}
	}
	for _, e := range []api.Errno{api.ErrShort, api.ErrLong, api.ErrForm, api.ErrKind, api.ErrLabel, api.ErrKey, api.ErrLevel, api.ErrHeight, api.ErrEnds, api.ErrCount, api.ErrOp} {
		if met[e] == 0 {
			t.Errorf("the error %d never came", e)
		}
	}
}

// TestOtherProofs: of another span, of another map, of another tree.
func TestOtherProofs(t *testing.T) {
	n := &noise{x: 42}
	for _, m := range someMaps(n) {
		s := wide(t)
		x, p := s.planted(m), planOf(m)
		other := edited(n, m)
		y, q := s.planted(other), planOf(other)
		l := append(spansOf(bounds(m)), all)
		for range 60 {
			in, one := l[n.below(len(l))], l[n.below(len(l))]
			proof := proofBytes(p.proof(one))
			want := refusal(x, in, proof)
			if want == api.OK { // both spans have one and the same proof
				want = api.ErrHonest
			}
			s.gives("the proof of "+toldSpan(one), x, in, proof, want)
			s.gives("another map's proof", x, in, proofBytes(q.proof(in)), api.ErrLabel)
			s.gives("the map's proof, of another tree", y, in, proofBytes(p.proof(in)), api.ErrLabel)
		}
	}
}

// TestOrderOfErrors, where two apply.
func TestOrderOfErrors(t *testing.T) {
	m := garden()
	in := span("3", "8")
	right := proofBytes(planOf(m).proof(in))
	wrong := proofBytes(planOf(mapOf("a", "1")).proof(in))
	unfit, tooLong := span("8", "3"), span("3", strings.Repeat("k", 1026))
	spoil := map[string]func(s store, x *api.Tree){
		"all is well":           func(s store, x *api.Tree) {},
		"a tree with no head":   func(s store, x *api.Tree) { x.Addr.Sum[3]++ },
		"a tree with a count":   func(s store, x *api.Tree) { x.Count++ },
		"a tower is lost":       func(s store, x *api.Tree) { s.forget(planOf(m).head.Kids[0].Addr) },
		"a value is lost":       func(s store, x *api.Tree) { s.forget(valueAddr(m[keysOf(3, 1, "3")[0]])) },
		"the power is gone":     func(s store, x *api.Tree) { s.off() },
		"no head, and no power": func(s store, x *api.Tree) { x.Addr.Nth++; s.off() },
	}
	behind := map[string]api.Errno{"all is well": api.ErrHonest, "the power is gone": api.ErrPower}
	for what, spoil := range spoil {
		s := wide(t)
		x := s.planted(m)
		spoil(s, &x)
		want := api.ErrTree
		if e, ok := behind[what]; ok {
			want = e
		}
		s.gives(what, x, in, right, want)
		s.gives(what+", bounds that fall", x, unfit, right, api.ErrBounds)
		s.gives(what+", a bound that is too long", x, tooLong, right, api.ErrLimit)
		s.gives(what+", bounds that fall, no proof", x, unfit, nil, api.ErrBounds)
		s.gives(what+", no proof", x, in, nil, api.ErrShort)
		s.gives(what+", a long proof", x, in, make([]byte, api.MaxProof+1), api.ErrLong)
		s.gives(what+", a proof without ops", x, in, []byte{0}, api.ErrEnds)
		s.gives(what+", another span's proof", x, all, right, api.ErrOp)
		s.gives(what+", another map's proof", x, in, wrong, api.ErrLabel)
	}
}

// TestWhereAProofParts: of a proof that is read to its end, One is the honest text, Two the proof's, at the first place at which they are unlike.
func TestWhereAProofParts(t *testing.T) {
	n := &noise{x: 43}
	met := map[byte]int{}
	for _, m := range someMaps(n) {
		s := wide(t)
		x, p := s.planted(m), planOf(m)
		l := append(spansOf(bounds(m)), all)
		for range 150 {
			in := l[n.below(len(l))]
			q := planOf(edited(n, m)).proof(in)
			if n.below(2) == 0 {
				q = proofOf(x.Count, twisted(n, p.proof(in).Ops)...)
			}
			proof := codec.Proof(q)
			texts, e := rightly(in, proof)
			if e != api.OK {
				continue
			}
			honest := p.walk(in).texts
			want, unlike := firstUnlike(honest, texts)
			end := api.OK
			if !unlike {
				end = api.ErrHonest
			}
			met[at0(want.One)]++
			got, e := extract.Apart(s.b, x, in, proof)
			if !sameTwins(got, want) || e != end {
				t.Errorf("12.3: %s: %.20x, %.20x, %d, want %.20x, %.20x, %d", toldSpan(in), got.One, got.Two, e, want.One, want.Two, end)
			}
		}
		if t.Failed() {
			t.FailNow()
		}
	}
	if met[0] == 0 || met[0x14] == 0 {
		t.Errorf("they parted at %v", met)
	}
}

// at0 is a text's first byte; 0 of none.
func at0(text []byte) byte {
	if len(text) == 0 {
		return 0
	}
	return text[0]
}

// TestWhereListsPart: at their first place, in their midst, at their last one, nowhere.
func TestWhereListsPart(t *testing.T) {
	texts := func(l ...string) [][]byte {
		var out [][]byte
		for _, text := range l {
			out = append(out, []byte(text))
		}
		return out
	}
	for i, c := range []struct {
		one, two [][]byte
		want     api.Twins
		unlike   bool
	}{
		{nil, nil, api.Twins{}, false},
		{texts("a"), texts("a"), api.Twins{}, false},
		{texts("a", "b", "c"), texts("a", "b", "c"), api.Twins{}, false},
		{texts("a", ""), [][]byte{[]byte("a"), nil}, api.Twins{}, false},
		{texts("a"), texts("b"), api.Twins{One: []byte("a"), Two: []byte("b")}, true},
		{texts("a", "b", "c"), texts("x", "b", "y"), api.Twins{One: []byte("a"), Two: []byte("x")}, true},
		{texts("a", "b", "c"), texts("a", "x", "y"), api.Twins{One: []byte("b"), Two: []byte("x")}, true},
		{texts("a", "b", "c"), texts("a", "b", "y"), api.Twins{One: []byte("c"), Two: []byte("y")}, true},
		{texts("a", "b", "c"), texts("a", "bb"), api.Twins{One: []byte("b"), Two: []byte("bb")}, true},
		{texts("a", ""), texts("a", "x", "y"), api.Twins{One: []byte(""), Two: []byte("x")}, true},
	} {
		if got, unlike := extract.Parted(c.one, c.two); !sameTwins(got, c.want) || unlike != c.unlike {
			t.Errorf("12.3: row %d: %q, %q, %v, want %q, %q, %v", i, got.One, got.Two, unlike, c.want.One, c.want.Two, c.unlike)
		}
	}
}
