package sweep_test

import (
	"bytes"
	"slices"
	"testing"

	"witness/api"
	"witness/sweep"
)

// roomy is a text with spare room, in which something stands.
func roomy(text string) []byte {
	b := append([]byte(text), "spare"...)
	return b[:len(text)]
}

// isRoomy tells whether a text and its spare room are as roomy made them.
func isRoomy(b []byte, text string) bool {
	return string(b) == text && string(b[:len(b)+5]) == text+"spare"
}

// scratch overwrites a text, with its spare room.
func scratch(b []byte) {
	b = b[:cap(b)]
	for i := range b {
		b[i] ^= 0xa5
	}
}

// handed is edits with spare room in each text and in the list.
func handed(l []api.Edit) []api.Edit {
	out := make([]api.Edit, 0, len(l)+2)
	for _, e := range l {
		out = append(out, api.Edit{Key: roomy(string(e.Key)), Value: roomy(string(e.Value)), Gone: e.Gone})
	}
	spare := out[:cap(out)]
	for i := len(out); i < len(spare); i++ {
		spare[i] = api.Edit{Key: []byte("spare")}
	}
	return out
}

// isHanded tells whether edits are as handed made them.
func isHanded(got, l []api.Edit) bool {
	spare := got[:cap(got)]
	for i := len(got); i < len(spare); i++ {
		if string(spare[i].Key) != "spare" || spare[i].Gone {
			return false
		}
	}
	return slices.EqualFunc(got, l, func(a, b api.Edit) bool {
		return isRoomy(a.Key, string(b.Key)) && isRoomy(a.Value, string(b.Value)) && a.Gone == b.Gone
	})
}

func scratchEdits(l []api.Edit) {
	for _, e := range l {
		scratch(e.Key)
		scratch(e.Value)
	}
	clear(l[:cap(l)])
}

var someEdits = []api.Edit{puts("e", "6"), gone("c"), puts("b", "2"), puts("zz", "9"), gone("x"), puts("b", "3"), puts("", "0")}

// TestEditsThatAreHandedIn are neither changed nor kept.
func TestEditsThatAreHandedIn(t *testing.T) {
	s := wide(t)
	m := mapOf("a", "1", "c", "3", "e", "5")
	x := s.built(m)
	want := edited(m, someEdits)
	l := handed(someEdits)
	y, e := sweep.Apply(s.b, x, l)
	isTree(t, "9.1: Apply", y, e, planOf(want).tree)
	if !isHanded(l, someEdits) {
		t.Errorf("0.4: Apply changes what is handed in: %s", toldEdits(l))
	}
	scratchEdits(l)
	s.each(y, all, listOf(want), api.OK)
	again, e := sweep.Apply(s.b, x, someEdits)
	isTree(t, "9.1: Apply again", again, e, y)

	l = handed(someEdits)
	it := sweep.Mix(sweep.Each(s.b, x, all), l, all)
	gives(t, "9.6: Mix", it, listOf(want), api.OK)
	if !isHanded(l, someEdits) {
		t.Errorf("0.4: Mix changes what is handed in: %s", toldEdits(l))
	}
	scratchEdits(l)
	gives(t, "0.4: Mix, whose edits were looked at when it was called", it, listOf(want), api.OK)
	l = handed(someEdits)
	it = sweep.Mix(sweep.Each(s.b, x, all), l, all)
	scratchEdits(l)
	gives(t, "0.4: Mix, whose edits are others ahead of the first loop", it, listOf(want), api.OK)
}

// TestSpansThatAreHandedIn are neither changed nor kept.
func TestSpansThatAreHandedIn(t *testing.T) {
	s := wide(t)
	m := mapOf("a", "1", "b", "2", "c", "3", "e", "5")
	x := s.built(m)
	in := api.Span{Lo: roomy("b"), Hi: roomy("e")}
	want := list("b", "2", "c", "3")
	each, mixed := sweep.Each(s.b, x, in), sweep.Mix(sweep.Each(s.b, x, in), []api.Edit{puts("d", "4"), puts("f", "6")}, in)
	s.each(x, in, want, api.OK)
	s.ranges(x, in, 1, want[:1], true, api.OK)
	s.ranges(x, in, 2, want, false, api.OK)
	s.counts(x, in, 2, api.OK)
	gives(t, "9.2: Each", each, want, api.OK)
	gives(t, "9.6: Mix", mixed, append(want, list("d", "4")...), api.OK)
	if !isRoomy(in.Lo, "b") || !isRoomy(in.Hi, "e") {
		t.Errorf("0.4: a span that is handed in is now %v", in)
	}
	key := roomy("c")
	if n, e := sweep.Rank(s.b, x, key); n != 2 || e != api.OK || !isRoomy(key, "c") {
		t.Errorf("0.4: Rank = %d, %d of what is now %q", n, e, key)
	}
	scratch(in.Lo)
	scratch(in.Hi)
	gives(t, "0.4: Each of a span that was changed", each, want, api.OK)
	gives(t, "0.4: Mix of a span that was changed", mixed, append(want, list("d", "4")...), api.OK)
	unfit := api.Span{Lo: roomy("b"), Hi: roomy("a")}
	each, mixed = sweep.Each(s.b, x, unfit), sweep.Mix(nil, nil, unfit)
	copy(unfit.Lo, "a")
	copy(unfit.Hi, "b")
	gives(t, "0.4: Each of a span that was not fit", each, nil, api.ErrBounds)
	gives(t, "0.4: Mix of a span that was not fit", mixed, nil, api.ErrBounds)
	open := api.Span{Lo: roomy("b"), Hi: bytes.Repeat([]byte("z"), api.MaxKey+2), Open: true}
	gives(t, "9.2: Each of an open span", sweep.Each(s.b, x, open), list("b", "2", "c", "3", "e", "5"), api.OK)
}

// TestEntriesThatAreHandedOut are new memory.
func TestEntriesThatAreHandedOut(t *testing.T) {
	s := wide(t)
	m := garden()
	x := s.built(m)
	ruin := func(e api.Entry) {
		scratch(e.Key)
		scratch(e.Value)
	}
	each := sweep.Each(s.b, x, all)
	for range 2 {
		i := 0
		for entry, e := range each {
			if want := listOf(m)[i]; e != api.OK || !sameEntry(entry, want) {
				t.Fatalf("0.4: Each gives %v, %d, want %v", entry, e, want)
			}
			ruin(entry)
			i++
		}
	}
	l, _, _ := sweep.Range(s.b, x, all, api.MaxAnswer)
	for i, entry := range l {
		if !sameEntry(entry, listOf(m)[i]) {
			t.Fatalf("0.4: the entries of Range share memory")
		}
		scratch(entry.Key)
		if !bytes.Equal(entry.Value, listOf(m)[i].Value) {
			t.Fatalf("0.4: a key of Range shares memory with its value")
		}
		scratch(entry.Value)
	}
	clear(l[:cap(l)])
	entry, _ := sweep.At(s.b, x, 3)
	ruin(entry)
	s.each(x, all, listOf(m), api.OK)
	s.at(x, 3, listOf(m)[3], api.OK)
	s.ranges(x, all, 5, listOf(m)[:5], true, api.OK)
}

// TestChangesThatAreHandedOut are new memory.
func TestChangesThatAreHandedOut(t *testing.T) {
	s := wide(t)
	m := garden()
	x, l := s.built(m), listOf(m)
	y, n := s.applies(x, m, gone(""), puts(string(l[3].Key), "other"), puts("zz", "last"), puts(string(l[5].Key), string(l[3].Value)))
	it := sweep.Diff(s.b, x, y)
	for range 2 {
		i := 0
		for c, e := range it {
			want := between(m, n)[i]
			if e != api.OK || !sameChange(c, want) {
				t.Fatalf("0.4: Diff gives %v, %d, want %v", c, e, want)
			}
			scratch(c.Key)
			if !bytes.Equal(c.Old, want.Old) || !bytes.Equal(c.New, want.New) {
				t.Fatalf("0.4: a key of Diff shares memory with a value")
			}
			scratch(c.Old)
			if !bytes.Equal(c.New, want.New) {
				t.Fatalf("0.4: two values of Diff share memory")
			}
			scratch(c.New)
			i++
		}
	}
	s.diff("again", x, y, between(m, n), api.OK)
}

// TestWhatMixHandsOut is new memory: it shares none with the base's, and none with the edits.
func TestWhatMixHandsOut(t *testing.T) {
	base := []api.Entry{{Key: roomy("a"), Value: roomy("1")}, {Key: roomy("c"), Value: roomy("3")}, {Key: roomy("e"), Value: roomy("5")}}
	l := handed(someEdits)
	it := sweep.Mix(fixed(base, api.OK), l, all)
	want := listOf(edited(mapOf("a", "1", "c", "3", "e", "5"), someEdits))
	for range 2 {
		i := 0
		for entry, e := range it {
			if e != api.OK || !sameEntry(entry, want[i]) {
				t.Fatalf("0.4: Mix gives %v, %d, want %v", entry, e, want[i])
			}
			scratch(entry.Key)
			if !bytes.Equal(entry.Value, want[i].Value) {
				t.Fatalf("0.4: a key of Mix shares memory with its value")
			}
			scratch(entry.Value)
			i++
		}
	}
	for i, e := range list("a", "1", "c", "3", "e", "5") {
		if !isRoomy(base[i].Key, string(e.Key)) || !isRoomy(base[i].Value, string(e.Value)) {
			t.Errorf("0.4: Mix changes what its base gives: %v", base[i])
		}
	}
	if !isHanded(l, someEdits) {
		t.Errorf("0.4: what Mix gives shares memory with its edits")
	}
}

// TestIteratorsLookWhenTheyAreRangedOver, and not when they are made.
func TestIteratorsLookWhenTheyAreRangedOver(t *testing.T) {
	s := wide(t)
	m, n := mapOf("a", "1", "c", "3", "e", "5"), mapOf("a", "1", "d", "4")
	p, q := planOf(m), planOf(n)
	each, diff := sweep.Each(s.b, p.tree, all), sweep.Diff(s.b, p.tree, q.tree)
	mixed := sweep.Mix(each, []api.Edit{puts("b", "2")}, all)
	gives(t, "0.6: Each of a tree that is not there yet", each, nil, api.ErrTree)
	gives(t, "0.6: Mix over it", mixed, nil, api.ErrTree)
	for _, e := range diff {
		answers(t, "0.6: Diff of trees that are not there yet", e, api.ErrTree)
	}
	s.planted(m)
	s.planted(n)
	for range 2 {
		gives(t, "0.6: Each of a tree that is there now", each, listOf(m), api.OK)
		gives(t, "0.6: Mix over it", mixed, listOf(edited(m, []api.Edit{puts("b", "2")})), api.OK)
		i := 0
		for c, e := range diff {
			if want := between(m, n)[i]; e != api.OK || !sameChange(c, want) {
				t.Errorf("0.6: Diff of trees that are there now: %v, %d, want %v", c, e, want)
			}
			i++
		}
	}
	for entry, e := range each { // step by step: what lies behind is not looked at yet
		if string(entry.Key) == "a" {
			s.forget(valueAddr("5"))
			continue
		}
		if want := list("c", "3")[0]; e == api.OK && !sameEntry(entry, want) {
			t.Errorf("0.6: Each gives %v, want %v", entry, want)
		}
	}
	gives(t, "0.6: Each without a value", each, list("a", "1", "c", "3"), api.ErrTree)
	gives(t, "0.6: Mix over it", mixed, list("a", "1", "b", "2", "c", "3"), api.ErrTree)
	s.off()
	gives(t, "0.6: Each without power", each, nil, api.ErrPower)
	gives(t, "0.6: Mix without power", mixed, nil, api.ErrPower)
}

// TestIteratorsThatAreLeft give no more, ask for no more, and begin anew.
func TestIteratorsThatAreLeft(t *testing.T) {
	s := wide(t)
	m := garden()
	x := s.built(m)
	empty := s.planted(nil)
	l, changes := listOf(m), between(nil, m)
	each, diff := sweep.Each(s.b, x, all), sweep.Diff(s.b, empty, x)
	for n := range l {
		leftBehind(t, "0.6: Each", each, l[:n+1])
		i := 0
		for c, e := range diff {
			if e != api.OK || !sameChange(c, changes[i]) {
				t.Errorf("0.6: Diff gives %v, %d, want %v", c, e, changes[i])
			}
			if i++; i == n+1 {
				break
			}
		}
		if i != n+1 {
			t.Errorf("0.6: Diff that is left behind %d changes gave %d", n+1, i)
		}
	}
	gives(t, "0.6: Each, begun anew", each, l, api.OK)
	for _, e := range sweep.Each(s.b, x, span("b", "a")) {
		answers(t, "9.2: an error that is left", e, api.ErrBounds)
		break
	}
	for _, e := range sweep.Diff(s.b, api.Tree{}, x) {
		answers(t, "9.5: an error that is left", e, api.ErrTree)
		break
	}
	for _, tower := range planOf(m).towers { // what comes behind the first key is not asked for
		if string(tower.Key) != string(l[0].Key) {
			s.forget(tower.Value)
		}
	}
	leftBehind(t, "0.6: Each", each, l[:1])
	s.ranges(x, all, 1, l[:1], true, api.OK)
	s.counts(x, all, len(l), api.OK)
}
