package sweep_test

import (
	"fmt"
	"maps"
	"slices"
	"testing"

	"witness/api"
	"witness/skip"
	"witness/sweep"
)

// byHand is the tree of edits that are put and deleted one by one.
func (s store) byHand(x api.Tree, l []api.Edit) api.Tree {
	s.t.Helper()
	for _, edit := range l {
		var e api.Errno
		if edit.Gone {
			x, _, e = skip.Delete(s.b, x, edit.Key)
		} else {
			x, e = skip.Put(s.b, x, edit.Key, edit.Value)
		}
		answers(s.t, "8.5: edit by edit", e, api.OK)
	}
	return x
}

// lastOnes is a list of edits of unlike keys with the same end.
func lastOnes(l []api.Edit) []api.Edit {
	last := map[string]api.Edit{}
	for _, e := range l {
		last[string(e.Key)] = e
	}
	return slices.Collect(maps.Values(last))
}

// TestApplyIsEditByEdit, in whatever order edits of unlike keys stand.
func TestApplyIsEditByEdit(t *testing.T) {
	n := &noise{x: 98}
	for round := 0; round < 40 && !t.Failed(); round++ {
		s, other := wide(t), wide(t)
		m := n.chance(n.below(30))
		x, z := s.built(m), other.built(m)
		l := n.edits(n.below(25))
		y := s.byHand(x, l)
		s.unchanged("9.8: Apply behind the same edits", func() {
			for _, l := range [][]api.Edit{l, lastOnes(l), lastOnes(l)} {
				again, e := sweep.Apply(s.b, x, l)
				isTree(t, "9.8: Apply behind the same edits", again, e, y)
			}
		})
		again, e := sweep.Apply(other.b, z, l)
		isTree(t, "9.8: Apply over another store", again, e, y)
	}
}

// TestRanksAndPlaces: they are each other's way back.
func TestRanksAndPlaces(t *testing.T) {
	n := &noise{x: 999}
	for _, m := range append(shapes(), n.chance(40)) {
		s := wide(t)
		x := s.planted(m)
		for i := range x.Count {
			entry, e := sweep.At(s.b, x, i)
			answers(t, "9.4: At", e, api.OK)
			s.rank(x, string(entry.Key), int(i), api.OK)
		}
		for range 50 {
			in := n.span()
			lo, e := sweep.Rank(s.b, x, in.Lo)
			answers(t, "9.4: Rank", e, api.OK)
			hi := x.Count
			if !in.Open {
				hi, e = sweep.Rank(s.b, x, in.Hi)
				answers(t, "9.4: Rank", e, api.OK)
			}
			s.counts(x, in, int(hi-lo), api.OK)
		}
	}
}

func editsOf(l []api.Change) []api.Edit {
	var edits []api.Edit
	for _, c := range l {
		edits = append(edits, api.Edit{Key: c.Key, Value: c.New, Gone: !c.Has})
	}
	return edits
}

func turned(l []api.Change) []api.Change {
	l = slices.Clone(l)
	for i, c := range l {
		l[i] = api.Change{Key: c.Key, Had: c.Has, Old: c.New, Has: c.Had, New: c.Old}
	}
	return l
}

// holdDiff holds Diff both ways against the maps, and the changes against Apply.
func (s store) holdDiff(what string, x, y api.Tree, m, n map[string]string) {
	s.t.Helper()
	want := between(m, n)
	s.unchanged("9.7: Diff", func() {
		s.diff(what, x, y, want, api.OK)
		s.diff(what, y, x, between(n, m), api.OK)
		s.diff(what, y, x, turned(want), api.OK)
		s.diff(what, x, x, nil, api.OK)
		back := y
		for batch := range slices.Chunk(editsOf(turned(want)), api.MaxBatch) {
			var e api.Errno
			back, e = sweep.Apply(s.b, back, batch)
			answers(s.t, "9.10: "+what+": Apply of the changes", e, api.OK)
		}
		if len(want) <= api.MaxBatch { // else there is a tree between the two
			isTree(s.t, "9.10: "+what+": Apply of the changes", back, api.OK, x)
		}
	})
	got, _ := s.changesOf(x, y)
	there := x
	for batch := range slices.Chunk(editsOf(got), api.MaxBatch) {
		var e api.Errno
		there, e = sweep.Apply(s.b, there, batch)
		answers(s.t, "9.10: "+what+": Apply of the changes", e, api.OK)
	}
	isTree(s.t, "9.10: "+what+": Apply of the changes", there, api.OK, y)
}

// TestDiffs: of any two maps.
func TestDiffs(t *testing.T) {
	n := &noise{x: 10}
	for round := 0; round < 60 && !t.Failed(); round++ {
		s := wide(t)
		empty := s.planted(nil)
		m := n.chance(n.below(40))
		x := s.planted(m)
		k := edited(m, n.edits(n.below(6)))
		y := s.planted(k)
		far := n.chance(n.below(40))
		z := s.planted(far)
		s.holdDiff("a common part", x, y, m, k)
		s.holdDiff("any two", x, z, m, far)
		s.holdDiff("the empty one", empty, x, nil, m)
	}
}

// TestDiffOfShapes: each key of some maps gone, or with another value.
func TestDiffOfShapes(t *testing.T) {
	for _, m := range shapes() {
		s := wide(t)
		x := s.planted(m)
		for key := range m {
			for _, e := range []api.Edit{gone(key), puts(key, "other"), puts(key, ""), puts(key+"x", ""), puts(key+"\x00", m[key])} {
				y, n := s.applies(x, m, e)
				s.holdDiff("one edit", x, y, m, n)
			}
		}
	}
}

// TestDiffOfMany: more changes than a batch.
func TestDiffOfMany(t *testing.T) {
	s := wide(t)
	m, n := map[string]string{}, map[string]string{}
	for i := range api.MaxBatch + 100 {
		m[fmt.Sprint("k", i)] = "v"
		if i%7 > 0 {
			n[fmt.Sprint("k", i, i%2)] = "w"
		}
	}
	x, y := s.planted(m), s.planted(n)
	got, e := s.changesOf(x, y)
	answers(t, "9.5: Diff", e, api.OK)
	if !slices.EqualFunc(got, between(m, n), sameChange) {
		t.Errorf("9.5: Diff gives %s, want %s", toldChanges(got), toldChanges(between(m, n)))
	}
	for batch := range slices.Chunk(editsOf(got), api.MaxBatch) {
		x, e = sweep.Apply(s.b, x, batch)
		answers(t, "9.10: Apply", e, api.OK)
	}
	isTree(t, "9.10: in pieces, one behind the other", x, api.OK, y)
}

// TestDiffReadsLittle: what hangs at one address in both trees is not gone through.
func TestDiffReadsLittle(t *testing.T) {
	s := wide(t)
	m := map[string]string{}
	for i := range 3000 {
		m[fmt.Sprint("k", i)] = "v"
	}
	x := s.planted(m)
	y, e := sweep.Apply(s.b, x, []api.Edit{puts("k1500", "w")})
	answers(t, "9.1: Apply", e, api.OK)
	before := s.d.Stats().Reads
	s.diff("one key of many", x, y, []api.Change{{Key: []byte("k1500"), Had: true, Old: []byte("v"), Has: true, New: []byte("w")}}, api.OK)
	if reads := s.d.Stats().Reads - before; reads > 300 {
		t.Errorf("9.5: Diff of trees that are unlike in one key reads %d sectors", reads)
	}
}

// TestMixIsApply: Mix of Each with edits gives what Each gives of Apply's tree.
func TestMixIsApply(t *testing.T) {
	n := &noise{x: 11}
	for range 60 {
		s := wide(t)
		m := n.chance(n.below(30))
		x := s.planted(m)
		l := n.edits(n.below(15))
		y, k := s.applies(x, m, l...)
		for range 6 {
			in := n.span()
			var want []api.Entry
			for entry, e := range sweep.Each(s.b, y, in) {
				answers(t, "9.2: Each", e, api.OK)
				want = append(want, entry)
			}
			gives(t, "9.11: Mix of Each", sweep.Mix(sweep.Each(s.b, x, in), l, in), want, api.OK)
			gives(t, "9.11: Mix of Each", sweep.Mix(sweep.Each(s.b, x, in), l, in), entriesIn(k, in), api.OK)
		}
	}
}
