package extract_test

import (
	"bytes"
	"slices"
	"sync"
	"testing"

	"witness/api"
	"witness/extract"
)

// roomy is a text with spare room, in which something stands.
func roomy(text string) []byte {
	b := append([]byte(text), "spare"...)
	return b[:len(text)]
}

// isRoomy tells whether a text and its spare room are as roomy made them.
func isRoomy(b []byte, text string) bool {
	return string(b) == text && string(b[:len(b)+5]) == text+"spare"
}

// scratch overwrites a text, with its spare room.
func scratch(b []byte) {
	b = b[:cap(b)]
	for i := range b {
		b[i] ^= 0xa5
	}
}

// roomyOps are ops whose texts have spare room.
func roomyOps(ops []api.Op) []api.Op {
	l := slices.Grow(slices.Clone(ops), 3)
	for i, o := range l {
		l[i].Key, l[i].Value = roomy(string(o.Key)), roomy(string(o.Value))
	}
	return l
}

func sameOp(a, b api.Op) bool {
	return a.Kind == b.Kind && a.Level == b.Level && isRoomy(a.Key, string(b.Key)) && a.Count == b.Count && a.Sum == b.Sum && isRoomy(a.Value, string(b.Value))
}

// TestWhatIsHandedIn is neither changed nor kept.
func TestWhatIsHandedIn(t *testing.T) {
	s := wide(t)
	m := garden()
	x, p := s.planted(m), planOf(m)
	for _, open := range []bool{false, true} {
		in := api.Span{Lo: roomy("2"), Hi: roomy("8"), Open: open}
		w := p.walk(api.Span{Lo: []byte("2"), Hi: []byte("8"), Open: open})
		text := string(proofBytes(w.proof()))
		for _, cut := range []int{len(w.ops), len(w.ops) - 1, 1, 0} {
			ops := roomyOps(w.ops[:cut])
			l, e := extract.Texts(in, api.Proof{Count: x.Count, Ops: ops})
			if (e == api.OK) != (cut == len(w.ops)) {
				t.Errorf("12.1: ops with spare room: %d", e)
			}
			if !slices.EqualFunc(ops, w.ops[:cut], sameOp) || slices.ContainsFunc(ops[cut:cap(ops)], func(o api.Op) bool { return o.Kind != 0 || o.Key != nil }) {
				t.Errorf("0.4: ops that are handed in are changed")
			}
			for i := range ops {
				scratch(ops[i].Key)
				scratch(ops[i].Value)
			}
			clear(ops)
			if e == api.OK && !sameTexts(l, w.texts) {
				t.Errorf("0.4: the texts of ops are others, once these were changed")
			}
		}
		l, e := extract.Honest(s.b, x, in)
		answers(t, "12.2: Honest", e, api.OK)
		for _, cut := range []int{len(text), len(text) - 1, 1, 0} {
			proof := roomy(text[:cut])
			_, e := extract.Span(s.b, x, in, proof)
			if (e == api.ErrHonest) != (cut == len(text)) || !isRoomy(proof, text[:cut]) {
				t.Errorf("0.4: a proof that is handed in is changed, %d", e)
			}
		}
		proof := roomy(text)
		twins, e := extract.Apart(s.b, s.planted(three()), in, proof)
		answers(t, "12.3: another map's proof", e, api.OK)
		one, two := string(twins.One), string(twins.Two)
		scratch(proof)
		if !isRoomy(in.Lo, "2") || !isRoomy(in.Hi, "8") {
			t.Errorf("0.4: a span that is handed in is changed")
		}
		scratch(in.Lo)
		scratch(in.Hi)
		if !sameTexts(l, w.texts) || string(twins.One) != one || string(twins.Two) != two {
			t.Errorf("0.4: an answer is another one, once what was handed in was changed")
		}
		s.honest("behind all that", x, p.walk(span("2", "8")))
	}
}

// TestListsThatAreHandedIn to Maps are neither changed nor kept; nor twins that are handed in to Shown.
func TestListsThatAreHandedIn(t *testing.T) {
	list := func(m map[string]string) []api.Entry {
		l := slices.Grow(listOf(m), 3)
		for i, e := range l {
			l[i] = api.Entry{Key: roomy(string(e.Key)), Value: roomy(string(e.Value))}
		}
		return l
	}
	same := func(e, want api.Entry) bool {
		return isRoomy(e.Key, string(want.Key)) && isRoomy(e.Value, string(want.Value))
	}
	m, other := garden(), fan(true)
	a, b := list(m), list(other)
	apart(t, "lists with spare room", a, b, api.ErrLabel)
	apart(t, "a list with spare room", a, a, api.ErrHonest)
	twins, texts := extract.MapsApart(a, b), extract.MapTexts(a)
	want := planOf(m).walk(all).texts
	one, two := string(twins.One), string(twins.Two)
	if !slices.EqualFunc(a, listOf(m), same) || !slices.EqualFunc(b, listOf(other), same) {
		t.Errorf("0.4: a list that is handed in is changed")
	}
	for _, l := range [][]api.Entry{a, b} {
		for _, e := range l {
			scratch(e.Key)
			scratch(e.Value)
		}
		clear(l)
	}
	if !sameTexts(texts, want) || string(twins.One) != one || string(twins.Two) != two {
		t.Errorf("0.4: an answer is another one, once the lists were changed")
	}
	pair := api.Twins{One: roomy("one"), Two: roomy("two")}
	if extract.Shown(pair) || !isRoomy(pair.One, "one") || !isRoomy(pair.Two, "two") {
		t.Errorf("0.4: twins that are handed in are changed")
	}
}

// spoilt holds that texts share no memory with one another, spare room included; it leaves nothing of them.
func spoilt(t *testing.T, what string, l, want [][]byte) {
	t.Helper()
	if len(l) != len(want) {
		t.Fatalf("%s: %d texts, want %d", what, len(l), len(want))
	}
	for i, text := range l {
		if !bytes.Equal(text, want[i]) {
			t.Fatalf("0.4: %s: text %d shares memory with one ahead of it", what, i)
		}
		scratch(text)
	}
	clear(l[:cap(l)])
}

// TestWhatIsHandedOut is new memory, spare room included.
func TestWhatIsHandedOut(t *testing.T) {
	n := &noise{x: 50}
	for _, m := range []map[string]string{{}, garden(), chain(20), n.chance(30), longKeys(), fan(true)} {
		s := wide(t)
		x, p := s.planted(m), planOf(m)
		for _, in := range append(some(n, spansOf(bounds(m)), 10), all) {
			w := p.walk(in)
			proof := roomyOps(w.ops)
			l, _ := extract.Texts(in, api.Proof{Count: x.Count, Ops: proof})
			again, _ := extract.Texts(in, api.Proof{Count: x.Count, Ops: proof})
			spoilt(t, "Texts", l, w.texts)
			if !sameTexts(again, w.texts) || !slices.EqualFunc(proof, w.ops, sameOp) {
				t.Errorf("0.4: texts share memory with others, or with their ops")
			}
			l, _ = extract.Honest(s.b, x, in)
			again, _ = extract.Honest(s.b, x, in)
			spoilt(t, "Honest", l, w.texts)
			if !sameTexts(again, w.texts) {
				t.Errorf("0.4: honest texts share memory with others")
			}
			s.honest("behind all that", x, w)
		}
		list := listOf(m)
		texts := extract.MapTexts(list)
		spoilt(t, "the texts of a map", texts, p.walk(all).texts)
		if !slices.EqualFunc(list, listOf(m), func(a, b api.Entry) bool { return bytes.Equal(a.Key, b.Key) && bytes.Equal(a.Value, b.Value) }) {
			t.Errorf("0.4: the texts of a map share memory with it")
		}
	}
	s := wide(t)
	x := s.pair(3)
	l, _ := extract.Honest(s.b, x, all)
	spoilt(t, "the texts of a tower that comes twice", l, s.walk(x, all).texts)
	proof := proofBytes(planOf(garden()).proof(all))
	twins, _ := extract.Apart(s.b, x, all, proof)
	two := bytes.Clone(twins.Two)
	scratch(twins.One)
	if !bytes.Equal(twins.Two, two) {
		t.Errorf("0.4: twins share memory")
	}
	scratch(twins.Two)
	if !bytes.Equal(proof, proofBytes(planOf(garden()).proof(all))) {
		t.Errorf("0.4: twins share memory with the proof")
	}
}

// TestManyAtOneTime: what a call answers hangs on its arguments alone, whatever others are asking.
func TestManyAtOneTime(t *testing.T) {
	n := &noise{x: 51}
	s := wide(t)
	m := garden()
	x, p := s.planted(m), planOf(m)
	l := append(some(n, spansOf(bounds(m)), 40), all)
	var group sync.WaitGroup
	for range 8 {
		order := shuffled(n, l)
		group.Add(1)
		go func() {
			defer group.Done()
			for _, in := range order {
				w := p.walk(in)
				proof := proofBytes(w.proof())
				honest, e := extract.Honest(s.b, x, in)
				texts, f := extract.Texts(in, w.proof())
				_, g := extract.Span(s.b, x, in, proof)
				_, h := extract.Span(s.b, x, in, proof[:len(proof)-1])
				if !sameTexts(honest, w.texts) || !sameTexts(texts, w.texts) || e != api.OK || f != api.OK || g != api.ErrHonest || h == api.ErrHonest {
					t.Errorf("0.3: %s: %d, %d, %d, %d", toldSpan(in), e, f, g, h)
				}
			}
		}()
	}
	group.Wait()
}

// TestAChangeGoesOn: none is begun, ended or undone.
func TestAChangeGoesOn(t *testing.T) {
	s := wide(t)
	m := garden()
	x, p := s.planted(m), planOf(m)
	answers(t, "6.8: Begin", s.b.Begin(), api.OK)
	y := s.planted(edited(&noise{x: 52}, m))
	s.honest("amid a change", x, p.walk(all))
	s.gives("amid a change", x, all, proofBytes(p.proof(all)), api.ErrHonest)
	s.gives("amid a change", y, all, proofBytes(p.proof(all)), api.ErrLabel)
	s.dishonest("amid a change", api.Tree{}, all, api.ErrTree)
	answers(t, "12.2: Begin amid a change", s.b.Begin(), api.ErrOpen)
	answers(t, "12.2: Undo", s.b.Undo(), api.OK)
	s.honest("behind Undo", x, p.walk(all))
	s.dishonest("a tree that was undone", y, all, api.ErrTree)
	answers(t, "12.2: End without a change", s.b.End(), api.ErrOpen)
}
