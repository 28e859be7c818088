package annals_test

import (
	"testing"

	"witness/annals"
	"witness/api"
)

// TestGrowthIsShown: annals of each size, each leaf, each earlier head, by the program's own paths.
func TestGrowthIsShown(t *testing.T) {
	t.Parallel()
	const most = 66
	s := wide(t)
	l := leavesOf(most)
	var a api.Annal
	heads := []api.Head{annals.Head(a)}
	for n := uint64(1); n <= most; n++ {
		next, e := annals.Append(s.b, a, l[n-1])
		answers(t, "13.2: Append", e, api.OK)
		a = next
		heads = append(heads, annals.Head(a))
		if heads[n] != annals.Over(l[:n]) {
			t.Errorf("13.9: the head of %d leaves is not Over of them", n)
		}
		for i := range n {
			s.leaf("grown", a, i, l[i])
			path, e := annals.Inclusion(s.b, a, i)
			answers(t, "13.10: Inclusion", e, api.OK)
			answers(t, "13.10: Included", annals.Included(heads[n], i, l[i], path), api.OK)
		}
		for m := range n + 1 {
			path, e := annals.Consistency(s.b, a, m)
			answers(t, "13.10: Consistency", e, api.OK)
			answers(t, "13.10: Extends", annals.Extends(heads[m], heads[n], path), api.OK)
		}
	}
}

// TestFitting: the peaks of annals that grow are the powers of 2 of their size.
func TestFitting(t *testing.T) {
	s := wide(t)
	a := s.grown(leavesOf(200))
	for n := 200; n < 270; n++ {
		for i, size := range sizes(a.Size) {
			if len(a.Peaks) != len(sizes(a.Size)) || a.Peaks[i].Size != size {
				t.Fatalf("13.9: the peaks of %d leaves: %v", a.Size, a.Peaks)
			}
		}
		next, e := annals.Append(s.b, a, leafOf(uint64(n)))
		answers(t, "13.2: Append", e, api.OK)
		a = next
	}
}

// TestLengthsOfPaths: the longest ones are met, and none is longer.
func TestLengthsOfPaths(t *testing.T) {
	t.Parallel()
	n := &noise{x: 16}
	leaf, growth := 0, 0
	for _, size := range greatSizes(n) {
		near := placesIn(n, size)
		x := newStore(t, 4098, 512, 64).sparse(size, near...)
		for _, i := range near {
			path, e := annals.Inclusion(x.b, x.annal, i)
			answers(t, "13.5: Inclusion", e, api.OK)
			answers(t, "13.10: Included", annals.Included(x.head(size), i, leafOf(i), path), api.OK)
			leaf = max(leaf, len(path))
			path, e = annals.Consistency(x.b, x.annal, i+1)
			answers(t, "13.5: Consistency", e, api.OK)
			answers(t, "13.10: Extends", annals.Extends(x.head(i+1), x.head(size), path), api.OK)
			growth = max(growth, len(path))
		}
	}
	if leaf != 63 || growth != 64 {
		t.Errorf("13.13: the longest paths have %d and %d labels, want 63 and 64", leaf, growth)
	}
}

// TestAppendAtTheEnd: the last two versions, and none behind them.
func TestAppendAtTheEnd(t *testing.T) {
	s := wide(t)
	x := s.sparse(last-1, last-2)
	a := x.annal
	heads := []api.Head{annals.Head(a)}
	for v := uint64(last - 1); v <= last; v++ {
		next, e := annals.Append(s.b, a, leafOf(v))
		answers(t, "13.2: Append", e, api.OK)
		a = next
		now := annals.Head(a)
		s.leaf("at the end", a, v, leafOf(v))
		path, e := annals.Inclusion(s.b, a, v)
		answers(t, "13.5: Inclusion", e, api.OK)
		answers(t, "13.10: Included", annals.Included(now, v, leafOf(v), path), api.OK)
		for _, old := range heads {
			path, e := annals.Consistency(s.b, a, old.Size)
			answers(t, "13.5: Consistency", e, api.OK)
			answers(t, "13.10: Extends", annals.Extends(old, now, path), api.OK)
		}
		heads = append(heads, now)
	}
	if a.Size != last+1 || len(a.Peaks) != 2 || a.Peaks[0].Size != last || a.Peaks[1].Size != 1 {
		t.Errorf("13.9: full annals: %v", a)
	}
	s.noAppend("full annals", a, leafOf(last+1), api.ErrLast)
}
