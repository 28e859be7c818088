package sweep_test

import (
	"bytes"
	"fmt"
	"iter"
	"maps"
	"slices"
	"strings"
	"testing"

	"witness/api"
	"witness/skip"
	"witness/sweep"
)

var all = api.Span{Open: true}

func from(lo string) api.Span { return api.Span{Lo: []byte(lo), Open: true} }

func span(lo, hi string) api.Span { return api.Span{Lo: []byte(lo), Hi: []byte(hi)} }

func lies(s api.Span, key string) bool {
	return key >= string(s.Lo) && (s.Open || key < string(s.Hi))
}

func toldSpan(s api.Span) string {
	if s.Open {
		return fmt.Sprintf("[%.20q ..", s.Lo)
	}
	return fmt.Sprintf("[%.20q, %.20q)", s.Lo, s.Hi)
}

func puts(key, value string) api.Edit { return api.Edit{Key: []byte(key), Value: []byte(value)} }

func gone(key string) api.Edit { return api.Edit{Key: []byte(key), Gone: true} }

// edited is a map behind edits, one behind the other.
func edited(m map[string]string, l []api.Edit) map[string]string {
	m = maps.Clone(m)
	if m == nil {
		m = map[string]string{}
	}
	for _, e := range l {
		if e.Gone {
			delete(m, string(e.Key))
		} else {
			m[string(e.Key)] = string(e.Value)
		}
	}
	return m
}

func toldEdits(l []api.Edit) string {
	var words []string
	for _, e := range l[:min(len(l), 20)] {
		if e.Gone {
			words = append(words, fmt.Sprintf("%.12q gone", e.Key))
		} else {
			words = append(words, fmt.Sprintf("%.12q = %.12q", e.Key, e.Value))
		}
	}
	return strings.Join(words, ", ")
}

// applies holds Apply against the map's plan: the answer, which blobs are written, in which order.
func (s store) applies(x api.Tree, m map[string]string, l ...api.Edit) (api.Tree, map[string]string) {
	s.t.Helper()
	m = edited(m, l)
	what := "9.1: Apply of " + toldEdits(l)
	return s.saves(what, planOf(m), func() (api.Tree, api.Errno) { return sweep.Apply(s.b, x, l) }), m
}

func (s store) applyFails(what string, x api.Tree, want api.Errno, l ...api.Edit) {
	s.t.Helper()
	s.unchanged("9.1: "+what, func() {
		y, e := sweep.Apply(s.b, x, l)
		noTree(s.t, "9.1: "+what, y, e, want)
	})
}

// planted is the tree of a map, applied in batches.
func (s store) planted(m map[string]string) api.Tree {
	s.t.Helper()
	x, e := skip.Empty(s.b)
	answers(s.t, "8.1: Empty", e, api.OK)
	var l []api.Edit
	for _, key := range slices.Sorted(maps.Keys(m)) {
		l = append(l, puts(key, m[key]))
	}
	for batch := range slices.Chunk(l, api.MaxBatch) {
		x, e = sweep.Apply(s.b, x, batch)
		answers(s.t, "9.1: Apply", e, api.OK)
	}
	return x
}

// entriesIn is what a map has in a span.
func entriesIn(m map[string]string, s api.Span) []api.Entry {
	return slices.DeleteFunc(listOf(m), func(e api.Entry) bool { return !lies(s, string(e.Key)) })
}

func sameEntry(a, b api.Entry) bool {
	return bytes.Equal(a.Key, b.Key) && bytes.Equal(a.Value, b.Value)
}

func toldEntries(l []api.Entry) string {
	var words []string
	for _, e := range l[:min(len(l), 20)] {
		words = append(words, fmt.Sprintf("%.12q = %.12q", e.Key, e.Value))
	}
	return fmt.Sprint(len(l), ": ", strings.Join(words, ", "))
}

// gives holds an iterator against its entries, and the error that ends it.
func gives(t *testing.T, what string, it iter.Seq2[api.Entry, api.Errno], want []api.Entry, end api.Errno) {
	t.Helper()
	var got []api.Entry
	ended := api.OK
	for entry, e := range it {
		if ended != api.OK {
			t.Errorf("%s: something comes behind the error %d", what, ended)
		}
		if ended = e; e == api.OK {
			got = append(got, entry)
		} else if entry.Key != nil || entry.Value != nil {
			t.Errorf("%s: the error %d comes with the entry %v", what, e, entry)
		}
	}
	if !slices.EqualFunc(got, want, sameEntry) || ended != end {
		t.Errorf("%s: %s, then %d, want %s, then %d", what, toldEntries(got), ended, toldEntries(want), end)
	}
}

func (s store) each(x api.Tree, in api.Span, want []api.Entry, end api.Errno) {
	s.t.Helper()
	gives(s.t, "9.2: Each of "+toldSpan(in), sweep.Each(s.b, x, in), want, end)
}

func (s store) ranges(x api.Tree, in api.Span, most int, want []api.Entry, more bool, end api.Errno) {
	s.t.Helper()
	l, also, e := sweep.Range(s.b, x, in, most)
	if !slices.EqualFunc(l, want, sameEntry) || also != more || e != end || e != api.OK && l != nil {
		s.t.Errorf("9.3: Range of %s, %d: %s, %v, %d, want %s, %v, %d", toldSpan(in), most, toldEntries(l), also, e, toldEntries(want), more, end)
	}
}

func (s store) counts(x api.Tree, in api.Span, want int, end api.Errno) {
	s.t.Helper()
	if n, e := sweep.Count(s.b, x, in); n != uint64(want) || e != end {
		s.t.Errorf("9.4: Count of %s: %d, %d, want %d, %d", toldSpan(in), n, e, want, end)
	}
}

func (s store) rank(x api.Tree, key string, want int, end api.Errno) {
	s.t.Helper()
	if n, e := sweep.Rank(s.b, x, []byte(key)); n != uint64(want) || e != end {
		s.t.Errorf("9.4: Rank of %.20q: %d, %d, want %d, %d", key, n, e, want, end)
	}
}

func (s store) at(x api.Tree, i uint64, want api.Entry, end api.Errno) {
	s.t.Helper()
	entry, e := sweep.At(s.b, x, i)
	if !sameEntry(entry, want) || e != end || e != api.OK && (entry.Key != nil || entry.Value != nil) {
		s.t.Errorf("9.4: At(%d): %v, %d, want %v, %d", i, entry, e, want, end)
	}
}

// spanFails holds all calls with a span against an error.
func (s store) spanFails(x api.Tree, in api.Span, want api.Errno) {
	s.t.Helper()
	s.each(x, in, nil, want)
	s.ranges(x, in, 1, nil, false, want)
	s.counts(x, in, 0, want)
}

// treeFails holds all calls with a tree against an error of its head.
func (s store) treeFails(what string, x api.Tree, want api.Errno) {
	s.t.Helper()
	s.unchanged(what, func() {
		s.t.Helper()
		s.applyFails(what, x, want)
		s.applyFails(what, x, want, puts("k", "v"))
		for _, in := range []api.Span{all, span("b", "d"), from("zz")} {
			s.spanFails(x, in, want)
		}
		s.rank(x, "", 0, want)
		s.rank(x, "k", 0, want)
		for _, i := range []uint64{0, x.Count, 1<<64 - 1} {
			s.at(x, i, api.Entry{}, want)
		}
		s.diff(what, x, x, nil, want)
	})
}

// between is the changes from one map to another.
func between(m, n map[string]string) []api.Change {
	keys := map[string]bool{}
	for key := range m {
		keys[key] = true
	}
	for key := range n {
		keys[key] = true
	}
	var l []api.Change
	for _, key := range slices.Sorted(maps.Keys(keys)) {
		old, had := m[key]
		now, has := n[key]
		if had != has || old != now {
			l = append(l, api.Change{Key: []byte(key), Had: had, Old: []byte(old), Has: has, New: []byte(now)})
		}
	}
	return l
}

func sameChange(a, b api.Change) bool {
	return bytes.Equal(a.Key, b.Key) && a.Had == b.Had && bytes.Equal(a.Old, b.Old) && a.Has == b.Has && bytes.Equal(a.New, b.New)
}

func toldChanges(l []api.Change) string {
	var words []string
	for _, c := range l[:min(len(l), 20)] {
		words = append(words, fmt.Sprintf("%.12q: %v %.12q, %v %.12q", c.Key, c.Had, c.Old, c.Has, c.New))
	}
	return fmt.Sprint(len(l), ": ", strings.Join(words, "; "))
}

// changesOf is what Diff gives: the changes, and the error that ends it.
func (s store) changesOf(x, y api.Tree) ([]api.Change, api.Errno) {
	s.t.Helper()
	var got []api.Change
	ended := api.OK
	for change, e := range sweep.Diff(s.b, x, y) {
		if ended != api.OK {
			s.t.Errorf("9.5: something comes behind the error %d", ended)
		}
		if ended = e; e == api.OK {
			got = append(got, change)
		} else if change.Key != nil || change.Had || change.Old != nil || change.Has || change.New != nil {
			s.t.Errorf("9.5: the error %d comes with the change %v", e, change)
		}
	}
	return got, ended
}

func (s store) diff(what string, x, y api.Tree, want []api.Change, end api.Errno) {
	s.t.Helper()
	got, ended := s.changesOf(x, y)
	if !slices.EqualFunc(got, want, sameChange) || ended != end {
		s.t.Errorf("9.5: %s: Diff gives %s, then %d, want %s, then %d", what, toldChanges(got), ended, toldChanges(want), end)
	}
}

// bounds are texts at and around keys.
func bounds(keys []string) []string {
	l := []string{"", "\x00", "\xff\xff\xff\xff\xff"}
	for _, key := range keys {
		l = append(l, key, key+"\x00")
		if key != "" {
			l = append(l, key[:len(key)-1])
		}
	}
	slices.Sort(l)
	return slices.Compact(l)
}

// garden is a map in which keys of many heights stand side by side.
func garden() map[string]string {
	m := map[string]string{"": "empty"}
	for height := 1; height <= 5; height++ {
		for i, key := range append(keysOf(height, 3, fmt.Sprint(6-height)), keysOf(height, 2, fmt.Sprint(6+height))...) {
			m[key] = fmt.Sprint("v", i, height)
		}
	}
	return m
}

// chance is a map of some keys, out of few.
func (n *noise) chance(size int) map[string]string {
	m := map[string]string{}
	for range size {
		m[n.key()] = fmt.Sprint("v", n.below(5))
	}
	return m
}

// edits are some of keys out of few.
func (n *noise) edits(size int) []api.Edit {
	var l []api.Edit
	for range size {
		if n.below(3) == 0 {
			l = append(l, api.Edit{Key: []byte(n.key()), Value: []byte("not looked at"), Gone: true})
		} else {
			l = append(l, puts(n.key(), fmt.Sprint("v", n.below(5))))
		}
	}
	return l
}

// span is one that is fit.
func (n *noise) span() api.Span {
	lo, hi := n.key(), n.key()
	if lo >= hi || n.below(4) == 0 {
		return from(lo)
	}
	return span(lo, hi)
}

func shuffled[T any](n *noise, l []T) []T {
	l = slices.Clone(l)
	for i := range l {
		j := n.below(i + 1)
		l[i], l[j] = l[j], l[i]
	}
	return l
}
