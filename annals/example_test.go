package annals_test

import (
	"slices"
	"testing"

	"witness/annals"
	"witness/api"
	"witness/digest"
)

// TestExamples are the chapter's, by number.
func TestExamples(t *testing.T) {
	var d []api.Sum
	leaf := func(i int) api.Leaf { return api.Leaf{Version: uint64(i), Label: api.Sum{byte(i), 3}} }
	var l []api.Leaf
	for i := range 8 {
		l = append(l, leaf(i))
		d = append(d, digest.Of(annals.LeafText(l[i])))
	}
	f := func(left, right api.Sum) api.Sum { return digest.Of(annals.ForkText(left, right)) }
	four := f(f(d[0], d[1]), f(d[2], d[3]))
	three := f(f(d[4], d[5]), d[6])

	for n, want := range map[int]api.Sum{
		0: digest.Of([]byte{0x15}), 1: d[0], 2: f(d[0], d[1]), 3: f(f(d[0], d[1]), d[2]), 5: f(four, d[4]), 7: f(four, three),
	} {
		if h := annals.Over(l[:n]); h.Size != uint64(n) || h.Label != want {
			t.Errorf("13.1: example 1: over %d leaves: %v", n, h)
		}
	}

	s := wide(t)
	a := s.grown(l[:7])
	if a.Size != 7 || len(a.Peaks) != 3 || a.Peaks[0].Size != 4 || a.Peaks[1].Size != 2 || a.Peaks[2].Size != 1 {
		t.Errorf("13.2: example 2: %v", a)
	}
	s.inclusion("example 3", a, 0, []api.Sum{d[1], f(d[2], d[3]), three})
	s.inclusion("example 3", a, 4, []api.Sum{d[5], d[6], four})
	s.inclusion("example 3", a, 6, []api.Sum{f(d[4], d[5]), four})
	s.inclusion("example 3", s.grown(l[:1]), 0, nil)
	s.consistency("example 4", a, 3, []api.Sum{d[2], d[3], f(d[0], d[1]), three})
	s.consistency("example 4", a, 4, []api.Sum{three})
	s.consistency("example 4", a, 6, []api.Sum{f(d[4], d[5]), d[6], four})
	s.consistency("example 4", a, 0, nil)
	s.consistency("example 4", a, 7, nil)
	s.noConsistency("example 4", a, 8, api.ErrLeaf)

	h, path := annals.Over(l[:7]), []api.Sum{d[5], d[6], four}
	answers(t, "13.6: example 5", annals.Included(h, 4, l[4], path), api.OK)
	answers(t, "13.6: example 5: one more", annals.Included(h, 4, l[4], append(slices.Clone(path), d[0])), api.ErrPath)
	answers(t, "13.6: example 5: one less", annals.Included(h, 4, l[4], path[:2]), api.ErrPath)
	answers(t, "13.6: example 5: another label", annals.Included(h, 4, l[4], []api.Sum{d[5], d[5], four}), api.ErrHead)
	answers(t, "13.6: example 5: of 7", annals.Included(h, 7, l[7], path), api.ErrLeaf)
	answers(t, "13.6: example 5: version 5", annals.Included(h, 4, api.Leaf{Version: 5, Label: l[4].Label}, path), api.ErrLeaf)

	growth := []api.Sum{d[2], d[3], f(d[0], d[1]), three}
	answers(t, "13.7: example 6", annals.Extends(annals.Over(l[:3]), h, growth), api.OK)
	answers(t, "13.7: example 6: back", annals.Extends(h, annals.Over(l[:3]), growth), api.ErrLeaf)
	answers(t, "13.7: example 6: other leaves", annals.Extends(annals.Over(l[4:7]), h, growth), api.ErrHead)

	s.noAppend("example 7", s.grown(l[:2]), l[3], api.ErrLeaf)
	s.noAppend("example 7", api.Annal{Size: 3, Peaks: []api.Peak{{Size: 2}}}, l[3], api.ErrHead)
	noClash(t, "example 9", h, 4, l[4], path, l[4], path, api.ErrHonest)

	great := wide(t)
	great.noAppend("example 8", great.sparse(last+1).annal, leafOf(last+1), api.ErrLast)
	if _, e := annals.Append(great.b, great.sparse(last-1).annal, leafOf(last-1)); e != api.OK || great.b.Len() != 63 {
		t.Errorf("13.2: example 8: %d blobs, %d, want a leaf and 62 forks", great.b.Len(), e)
	}
	for n, want := range map[int]int{1: 1, 2: 3, 3: 4, 4: 7} {
		s := wide(t)
		if s.grown(l[:n]); s.b.Len() != want {
			t.Errorf("13.2: example 10: %d leaves lie in %d blobs, want %d", n, s.b.Len(), want)
		}
	}
}
