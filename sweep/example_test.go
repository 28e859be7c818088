package sweep_test

import (
	"iter"
	"strings"
	"testing"

	"witness/api"
	"witness/skip"
	"witness/sweep"
)

// list is of keys and values that take turns.
func list(l ...string) []api.Entry {
	var entries []api.Entry
	for i := 0; i < len(l); i += 2 {
		entries = append(entries, api.Entry{Key: []byte(l[i]), Value: []byte(l[i+1])})
	}
	return entries
}

// fixed gives some entries, and then an error, if it is one.
func fixed(l []api.Entry, end api.Errno) iter.Seq2[api.Entry, api.Errno] {
	return func(yield func(api.Entry, api.Errno) bool) {
		for _, e := range l {
			if !yield(e, api.OK) {
				return
			}
		}
		if end != api.OK {
			yield(api.Entry{}, end)
		}
	}
}

// TestExamples are those of the chapter.
func TestExamples(t *testing.T) {
	s := wide(t)
	empty, _ := skip.Empty(s.b)
	m := mapOf("a", "1", "c", "3", "e", "5")
	x := s.built(m)
	is := func(in api.Span, want ...string) {
		t.Helper()
		s.each(x, in, list(want...), api.OK)
	}
	is(all, "a", "1", "c", "3", "e", "5")
	is(span("b", "d"), "c", "3")
	is(span("a", "c"), "a", "1")
	s.each(x, span("d", "d"), nil, api.ErrBounds)
	s.each(empty, all, nil, api.OK)

	s.ranges(x, all, 2, list("a", "1", "c", "3"), true, api.OK)
	s.ranges(x, all, 3, list("a", "1", "c", "3", "e", "5"), false, api.OK)
	s.ranges(x, all, 0, nil, false, api.ErrMost)
	s.ranges(x, span("d", "a"), 0, nil, false, api.ErrBounds)

	for key, want := range map[string]int{"a": 0, "b": 1, "c": 1, "f": 3, "": 0} {
		s.rank(x, key, want, api.OK)
	}
	s.at(x, 0, list("a", "1")[0], api.OK)
	s.at(x, 2, list("e", "5")[0], api.OK)
	s.at(x, 3, api.Entry{}, api.ErrRank)
	s.counts(x, span("b", "z"), 2, api.OK)
	s.counts(x, all, 3, api.OK)

	_, n := s.applies(x, m, puts("b", "2"), gone("c"), puts("b", "7"), gone("x"))
	if len(n) != 3 || n["b"] != "7" {
		t.Errorf("the test's map is %v", n)
	}
	s.unchanged("9.1: Apply that changes nothing", func() {
		for _, l := range [][]api.Edit{nil, {puts("a", "1")}, {gone("c"), puts("c", "3")}} {
			y, e := sweep.Apply(s.b, x, l)
			isTree(t, "9.1: Apply of "+toldEdits(l), y, e, x)
		}
	})
	s.applyFails("too many edits", x, api.ErrLimit, make([]api.Edit, 4097)...)
	s.applyFails("too long a key", x, api.ErrLimit, puts(strings.Repeat("k", 1025), ""))
	s.applies(x, m, api.Edit{Key: []byte("a"), Value: make([]byte, 65537), Gone: true})

	other := mapOf("a", "1", "b", "2", "c", "4")
	y := s.built(other)
	s.diff("T and another one", x, y, []api.Change{
		{Key: []byte("b"), Has: true, New: []byte("2")},
		{Key: []byte("c"), Had: true, Old: []byte("3"), Has: true, New: []byte("4")},
		{Key: []byte("e"), Had: true, Old: []byte("5")},
	}, api.OK)
	s.diff("T and T", x, x, nil, api.OK)
	s.diff("the empty one and T", empty, x, between(nil, m), api.OK)
}

func TestExamplesOfMix(t *testing.T) {
	s := wide(t)
	x := s.built(mapOf("a", "1", "c", "3", "e", "5"))
	mixes := func(base iter.Seq2[api.Entry, api.Errno], l []api.Edit, in api.Span, want []api.Entry, end api.Errno) {
		t.Helper()
		gives(t, "9.6: Mix of "+toldEdits(l)+" in "+toldSpan(in), sweep.Mix(base, l, in), want, end)
	}
	mixes(sweep.Each(s.b, x, all), []api.Edit{gone("c"), puts("d", "4"), puts("a", "9")}, all, list("a", "9", "d", "4", "e", "5"), api.OK)
	in := span("b", "z")
	mixes(sweep.Each(s.b, x, in), []api.Edit{puts("a", "9"), puts("f", "6")}, in, list("c", "3", "e", "5", "f", "6"), api.OK)
	mixes(nil, nil, all, nil, api.OK)
	l := []api.Edit{puts("a", "1"), puts("z", "2")}
	mixes(fixed(list("c", "3"), api.ErrTree), l, all, list("a", "1", "c", "3"), api.ErrTree)
	mixes(fixed(nil, api.ErrTree), l, all, nil, api.ErrTree)

	it := sweep.Each(s.b, x, all)
	for range 2 {
		for entry, e := range it {
			if !sameEntry(entry, list("a", "1")[0]) || e != api.OK {
				t.Errorf("9.2: Each begins with %v, %d", entry, e)
			}
			break
		}
	}

	s.turn(valueAddr("5"))
	s.each(x, all, list("a", "1", "c", "3"), api.ErrTree)
	s.ranges(x, all, 2, list("a", "1", "c", "3"), true, api.OK)
	s.counts(x, all, 3, api.OK)
}
