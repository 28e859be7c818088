package annals_test

import (
	"bytes"
	"slices"
	"sync"
	"testing"

	"witness/annals"
	"witness/api"
)

// roomy is a list with spare room, in which something stands.
func roomy[T any](l []T, spare T) []T {
	return append(slices.Clone(l), spare, spare, spare)[:len(l)]
}

// isRoomy tells whether a list and its spare room are as roomy made them.
func isRoomy[T comparable](l, want []T, spare T) bool {
	return slices.Equal(l[:len(want)+3], append(slices.Clone(want), spare, spare, spare))
}

var (
	spareSum  = api.Sum{77}
	spareLeaf = api.Leaf{Version: 77}
	sparePeak = api.Peak{Size: 77}
)

// TestWhatIsHandedIn is neither changed nor kept.
func TestWhatIsHandedIn(t *testing.T) {
	s := wide(t)
	for size := range 18 {
		l := leavesOf(size)
		list := roomy(l, spareLeaf)
		h := annals.Over(list)
		if !isRoomy(list, l, spareLeaf) {
			t.Errorf("0.4: Over changes its leaves")
		}
		clear(list[:cap(list)])
		a := s.grown(l)
		kept := slices.Clone(a.Peaks)
		a.Peaks = roomy(a.Peaks, sparePeak)
		if annals.Head(a) != h || h != headOf(l) {
			t.Errorf("13.3: the head of %d leaves", size)
		}
		next, e := annals.Append(s.b, a, leafOf(a.Size))
		answers(t, "13.2: Append", e, api.OK)
		s.noAppend("another version", a, leafOf(a.Size+1), api.ErrLeaf)
		for i := range a.Size {
			path := pathTo(labelsOf(l), 0, a.Size, i)
			s.leaf("with spare room", a, i, l[i])
			s.inclusion("with spare room", a, i, path)
			in := roomy(path, spareSum)
			answers(t, "13.6: Included", annals.Included(h, i, l[i], in), api.OK)
			answers(t, "13.6: Included", annals.Included(api.Head{Size: a.Size}, i, l[i], in), api.ErrHead)
			noClash(t, "with spare room", h, i, l[i], in, l[i], in, api.ErrHonest)
			if !isRoomy(in, path, spareSum) {
				t.Errorf("0.4: Included or Clash changes a path")
			}
		}
		for m := range a.Size + 1 {
			path := growthTo(labelsOf(l), m, a.Size)
			s.consistency("with spare room", a, m, path)
			in := roomy(path, spareSum)
			answers(t, "13.7: Extends", annals.Extends(headOf(l[:m]), h, in), api.OK)
			if !isRoomy(in, path, spareSum) {
				t.Errorf("0.4: Extends changes a path")
			}
		}
		if !isRoomy(a.Peaks, kept, sparePeak) {
			t.Errorf("0.4: the annals of %d leaves are others", size)
		}
		clear(a.Peaks[:cap(a.Peaks)])
		if !sameAnnals(next, annalsOf(leavesOf(size+1))) {
			t.Errorf("0.4: the annals of %d leaves share memory with those that they grew from", size+1)
		}
	}
}

// TestWhatIsHandedOut is new memory, spare room included.
func TestWhatIsHandedOut(t *testing.T) {
	s := wide(t)
	l := leavesOf(13)
	a := s.grown(l)
	over := labelsOf(l)
	for i := range uint64(13) {
		one, _ := annals.Inclusion(s.b, a, i)
		two, _ := annals.Inclusion(s.b, a, i)
		clear(one[:cap(one)])
		if !slices.Equal(two, pathTo(over, 0, 13, i)) {
			t.Errorf("0.4: two answers of Inclusion share memory")
		}
		one, _ = annals.Consistency(s.b, a, i)
		two, _ = annals.Consistency(s.b, a, i)
		clear(one[:cap(one)])
		if !slices.Equal(two, growthTo(over, i, 13)) {
			t.Errorf("0.4: two answers of Consistency share memory")
		}
		s.inclusion("behind all that", a, i, pathTo(over, 0, 13, i))
		s.consistency("behind all that", a, i, growthTo(over, i, 13))
	}
	one, _ := annals.Append(s.b, a, leafOf(13))
	two, _ := annals.Append(s.b, a, leafOf(13))
	clear(one.Peaks[:cap(one.Peaks)])
	if !sameAnnals(two, annalsOf(leavesOf(14))) || !sameAnnals(a, annalsOf(l)) {
		t.Errorf("0.4: annals share memory")
	}
	text, again := annals.LeafText(l[3]), annals.LeafText(l[3])
	clear(text[:cap(text)])
	if !bytes.Equal(again, leafText(l[3])) || !bytes.Equal(annals.LeafText(l[3]), leafText(l[3])) {
		t.Errorf("0.4: texts of leaves share memory")
	}
	text, again = annals.ForkText(spareSum, spareSum), annals.ForkText(spareSum, spareSum)
	clear(text[:cap(text)])
	if !bytes.Equal(again, forkText(spareSum, spareSum)) || !bytes.Equal(annals.ForkText(spareSum, spareSum), again) {
		t.Errorf("0.4: texts of forks share memory")
	}
}

// TestManyAtOneTime: what a call answers hangs on its arguments alone, whatever others are asking.
func TestManyAtOneTime(t *testing.T) {
	s := wide(t)
	l := leavesOf(21)
	a, h, over := s.grown(l), headOf(l), labelsOf(l)
	var group sync.WaitGroup
	for w := range 8 {
		group.Add(1)
		go func() {
			defer group.Done()
			for j := range uint64(60) {
				i := (j*5 + uint64(w)) % 21
				path, growth := pathTo(over, 0, 21, i), growthTo(over, i, 21)
				s.leaf("many", a, i, l[i])
				s.inclusion("many", a, i, path)
				s.consistency("many", a, i, growth)
				answers(t, "13.6: many", annals.Included(h, i, l[i], path), api.OK)
				answers(t, "13.7: many", annals.Extends(headOf(l[:i]), h, growth), api.OK)
			}
		}()
	}
	group.Wait()
}

// TestAChangeGoesOn: none is begun, ended or undone.
func TestAChangeGoesOn(t *testing.T) {
	s := wide(t)
	l := leavesOf(9)
	a := s.grown(l[:7])
	answers(t, "6.8: Begin", s.b.Begin(), api.OK)
	next := a
	for _, leaf := range l[7:] {
		var e api.Errno
		next, e = annals.Append(s.b, next, leaf)
		answers(t, "13.2: Append amid a change", e, api.OK)
	}
	s.leaf("amid a change", next, 8, l[8])
	answers(t, "13.2: Begin amid a change", s.b.Begin(), api.ErrOpen)
	answers(t, "13.2: Undo", s.b.Undo(), api.OK)
	s.leaf("behind Undo", a, 6, l[6])
	s.noLeaf("behind Undo", next, 0, api.ErrNone)
	again := a
	for _, leaf := range l[7:] {
		var e api.Errno
		again, e = annals.Append(s.b, again, leaf)
		answers(t, "13.2: Append behind Undo", e, api.OK)
	}
	if !sameAnnals(again, next) || !sameAnnals(again, annalsOf(l)) {
		t.Errorf("13.2: behind Undo: %v, want %v", again, next)
	}
	answers(t, "13.2: End without a change", s.b.End(), api.ErrOpen)
}
