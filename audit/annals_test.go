package audit_test

import (
	"fmt"
	"testing"

	"witness/api"
)

// partsOf are the places of the annals of n leaves: each with its first leaf.
func partsOf(n uint64) map[string]uint64 {
	l := map[string]uint64{}
	var part func(from, n uint64)
	part = func(from, n uint64) {
		l[partAt(from, n)] = from
		if n > 1 {
			part(from, n/2)
			part(from+n/2, n/2)
		}
	}
	from := uint64(0)
	for _, size := range powers(n) {
		part(from, size)
		from += size
	}
	return l
}

var (
	forkFaults = []string{"missing", "another Nth", "kind 1", "kind 2", "kind 3", "a byte more", "a byte less", "empty", "another label"}
	leafFaults = []string{"missing", "another Nth", "kind 1", "kind 2", "kind 4", "a byte more", "a byte less", "empty", "another label", "another version"}
)

func faultsOf(place string, from uint64) []string {
	if place == partAt(from, 1) {
		return leafFaults
	}
	return forkFaults
}

// TestLeavesThatAreNotShown: each fault at each place of the annals; the first leaf below it is not shown.
func TestLeavesThatAreNotShown(t *testing.T) {
	t.Parallel()
	for _, n := range []uint64{1, 2, 3, 4, 7, 8, 12, 13} {
		clean := run(t, sceneOf(t, n, nil).lay(), 1)
		for place, from := range partsOf(n) {
			for _, fault := range faultsOf(place, from) {
				what := fmt.Sprintf("17.7: %d leaves, %s at %s", n, fault, place)
				r := alike(t, what, sceneOf(t, n, map[string]string{place: fault}).lay())
				finds(t, what, r, of(api.ErrLeaf, from))
				if r.Keys != clean.Keys || r.Live > clean.Live {
					t.Errorf("%s: %v, without it %v", what, numbers(r), numbers(clean))
				}
			}
		}
	}
}

// TestLeastLeaf: of several leaves that are not shown the least is told, once.
func TestLeastLeaf(t *testing.T) {
	r := noise(7)
	for range 200 {
		n := 1 + r.Uint64N(20)
		faults := map[string]string{}
		least := n
		for place, from := range partsOf(n) {
			if r.IntN(6) == 0 {
				l := faultsOf(place, from)
				faults[place] = l[r.IntN(len(l))]
				least = min(least, from)
			}
		}
		var want []api.Finding
		if least < n {
			want = append(want, of(api.ErrLeaf, least))
		}
		x := alike(t, fmt.Sprint(n, faults), sceneOf(t, n, faults).lay())
		finds(t, fmt.Sprint("17.7: ", n, faults), x, want...)
	}
}

// TestLabelsOfLeaves: a kept version whose leaf is shown with another label than its tree's; where it is not shown nothing is said of that.
func TestLabelsOfLeaves(t *testing.T) {
	for kept := range 3 {
		for _, fault := range []string{"", "missing", "another label", "another version"} {
			version := uint64(4 + kept)
			place := partAt(version, 1)
			s := sceneOf(t, 7, map[string]string{place: fault})
			lost := "no tree has this label"
			s.page.Versions[kept].Tree.Label = sum([]byte(lost)) // the leaf has that of the tree as it is
			r := alike(t, fmt.Sprint(version, fault), s.lay())
			if fault == "" {
				finds(t, "17.7: another label", r, of(api.ErrTree, version), of(api.ErrLabel, version))
			} else {
				finds(t, "17.7: another label, and no leaf", r, of(api.ErrTree, version), of(api.ErrLeaf, version))
			}
		}
	}
	// Each tree is whole, but another version's.
	s := sceneOf(t, 7, nil)
	v := s.page.Versions
	v[0].Tree, v[1].Tree, v[2].Tree = v[1].Tree, v[2].Tree, v[0].Tree
	r := alike(t, "trees that have changed places", s.lay())
	finds(t, "17.7: trees that have changed places", r, of(api.ErrLabel, 4), of(api.ErrLabel, 5), of(api.ErrLabel, 6))
	if r.Keys != uint64(3*len(keysOf)-3) {
		t.Errorf("17.5: %d keys", r.Keys)
	}
	// A leaf ahead of them is lost: they are shown all the same.
	s = sceneOf(t, 7, map[string]string{"0+4": "missing"})
	v = s.page.Versions
	v[0].Tree, v[2].Tree = v[2].Tree, v[0].Tree
	r = alike(t, "a lost peak", s.lay())
	finds(t, "17.7: a lost peak", r, of(api.ErrLeaf, 0), of(api.ErrLabel, 4), of(api.ErrLabel, 6))
}

// TestVersionsThatAreNotKept: leaves of versions that are gone must be shown too, with whatever label.
func TestVersionsThatAreNotKept(t *testing.T) {
	s := sceneOf(t, 13, nil)
	finds(t, "17.7: gone versions with any labels", alike(t, "any labels", s.lay()))
	for i := range uint64(10) {
		r := alike(t, "a gone version", sceneOf(t, 13, map[string]string{partAt(i, 1): "missing"}).lay())
		finds(t, "17.7: a gone version's leaf is missing", r, of(api.ErrLeaf, i))
	}
}

// TestPartsOfAnotherSize: a fork where a leaf must be, a leaf where a fork must be, a fork of other leaves: the labels are right each time.
func TestPartsOfAnotherSize(t *testing.T) {
	label := func(i uint64) api.Sum { return sum(long(i)) }
	for _, row := range []struct {
		name  string
		first uint64
		part  func(s *scene) api.Limb // in the place of the four leaves from 0 on
	}{
		{"two leaves", 0, func(s *scene) api.Limb { return s.limb(0, 2, label) }},
		{"eight leaves", 0, func(s *scene) api.Limb { return s.limb(0, 8, label) }},
		{"one leaf", 0, func(s *scene) api.Limb { return s.limb(0, 1, label) }},
		{"a fork of unlike parts", 2, func(s *scene) api.Limb { return s.fork(s.limb(0, 2, label), s.limb(2, 1, label)) }},
		{"the first leaves twice", 2, func(s *scene) api.Limb { return s.fork(s.limb(0, 2, label), s.limb(0, 2, label)) }},
		{"the sides exchanged", 0, func(s *scene) api.Limb { return s.fork(s.limb(2, 2, label), s.limb(0, 2, label)) }},
		{"the last leaf twice", 3, func(s *scene) api.Limb {
			return s.fork(s.limb(0, 2, label), s.fork(s.limb(2, 1, label), s.limb(2, 1, label)))
		}},
	} {
		s := sceneOf(t, 7, nil)
		s.page.Annal.Peaks[0].Limb = row.part(s)
		r := alike(t, row.name, s.lay())
		finds(t, "17.7: "+row.name, r, of(api.ErrLeaf, row.first))
	}
}

// fork is the fork of two parts.
func (s *scene) fork(left, right api.Limb) api.Limb {
	s.t.Helper()
	return api.Limb{Addr: s.blob(4, forkBytes(api.Fork{Left: left, Right: right})), Label: sum([]byte{0x16}, left.Label[:], right.Label[:])}
}
