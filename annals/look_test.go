package annals_test

import (
	"testing"

	"witness/api"
)

// TestLookingBack: each leaf, each path, of lists of many lengths; nothing is written.
func TestLookingBack(t *testing.T) {
	s := wide(t)
	l := leavesOf(130)
	s.grown(l)
	s.unchanged("looking back", func() {
		for _, size := range edges(128) {
			a, over, n := annalsOf(l[:size]), labelsOf(l), uint64(size)
			for i := range n {
				s.leaf("grown", a, i, l[i])
				s.inclusion("grown", a, i, pathTo(over, 0, n, i))
			}
			for m := range n + 1 {
				s.consistency("grown", a, m, growthTo(over, m, n))
			}
		}
	})
}

func TestLookingBackTooFar(t *testing.T) {
	s := wide(t)
	l := leavesOf(20)
	s.grown(l)
	look := func(when string) {
		for size := range len(l) + 1 {
			a := annalsOf(l[:size])
			for _, i := range []uint64{a.Size, a.Size + 1, 2*a.Size + 1, last, last + 1, 1 << 63, 1<<64 - 1} {
				s.noLeaf(when+"behind the last one", a, i, api.ErrLeaf)
				s.noInclusion(when+"behind the last one", a, i, api.ErrLeaf)
				if i > a.Size {
					s.noConsistency(when+"behind the last one", a, i, api.ErrLeaf)
				}
			}
		}
	}
	look("")
	s.off()
	look("without power, ")
}

// TestLookingBackInGreatAnnals: by bits up to the last ones.
func TestLookingBackInGreatAnnals(t *testing.T) {
	n := &noise{x: 7}
	for _, size := range greatSizes(n) {
		s := newStore(t, 4098, 512, 64)
		near := placesIn(n, size)
		x := s.sparse(size, near...)
		s.unchanged("looking back", func() {
			for _, i := range near {
				s.leaf("great annals", x.annal, i, leafOf(i))
				s.inclusion("great annals", x.annal, i, pathTo(x.over, 0, size, i))
				s.consistency("great annals", x.annal, i+1, growthTo(x.over, i+1, size))
			}
			s.consistency("great annals", x.annal, 0, nil)
			s.consistency("great annals", x.annal, size, nil)
			for _, i := range []uint64{size, size + 1, last + 2, 1<<64 - 1} {
				s.noLeaf("great annals", x.annal, i, api.ErrLeaf)
				s.noInclusion("great annals", x.annal, i, api.ErrLeaf)
				if i > size {
					s.noConsistency("great annals", x.annal, i, api.ErrLeaf)
				}
			}
		})
	}
}

// TestNothingIsAskedOfLabels: leaves and labels are told as they stand there, whatever they should be.
func TestNothingIsAskedOfLabels(t *testing.T) {
	s := wide(t)
	n := &noise{x: 8}
	leaf := api.Leaf{Version: 99, Label: n.sum()}
	made := func(l, r api.Addr) (api.Addr, api.Fork) {
		f := api.Fork{Left: api.Limb{Addr: l, Label: n.sum()}, Right: api.Limb{Addr: r, Label: n.sum()}}
		return s.put(api.KindFork, forkRecord(f)), f
	}
	at := s.put(api.KindLeaf, leafRecord(leaf))
	low, f := made(at, at)
	top, g := made(low, low)
	sums := n.sums(3)
	a := api.Annal{Size: 6, Peaks: []api.Peak{{Size: 4, Limb: api.Limb{Addr: top, Label: sums[0]}}, {Size: 2, Limb: api.Limb{Addr: low, Label: sums[1]}}}}
	for i := range uint64(6) {
		s.leaf("other labels", a, i, leaf)
	}
	s.inclusion("other labels", a, 0, []api.Sum{f.Right.Label, g.Right.Label, sums[1]})
	s.inclusion("other labels", a, 1, []api.Sum{f.Left.Label, g.Right.Label, sums[1]})
	s.inclusion("other labels", a, 2, []api.Sum{f.Right.Label, g.Left.Label, sums[1]})
	s.inclusion("other labels", a, 3, []api.Sum{f.Left.Label, g.Left.Label, sums[1]})
	s.inclusion("other labels", a, 4, []api.Sum{f.Right.Label, sums[0]})
	s.inclusion("other labels", a, 5, []api.Sum{f.Left.Label, sums[0]})
	s.consistency("other labels", a, 1, []api.Sum{f.Right.Label, g.Right.Label, sums[1]})
	s.consistency("other labels", a, 2, []api.Sum{g.Right.Label, sums[1]})
	s.consistency("other labels", a, 3, []api.Sum{f.Left.Label, f.Right.Label, g.Left.Label, sums[1]})
	s.consistency("other labels", a, 4, []api.Sum{sums[1]})
	s.consistency("other labels", a, 5, []api.Sum{f.Left.Label, f.Right.Label, sums[0]})

	other := api.Leaf{Version: last, Label: n.sum()}
	one := api.Annal{Size: 1, Peaks: []api.Peak{{Size: 1, Limb: api.Limb{Addr: s.put(api.KindLeaf, leafRecord(other))}}}}
	s.leaf("another version", one, 0, other)
	s.inclusion("another version", one, 0, nil)
}

// TestAddressesWithAnNth: where a limb has another Nth, nothing is there.
func TestAddressesWithAnNth(t *testing.T) {
	s := wide(t)
	a := s.grown(leavesOf(3))
	a.Peaks[0].Limb.Addr.Nth = 1
	a.Peaks[1].Limb.Addr.Nth = 1
	for i := range uint64(3) {
		s.noLeaf("another Nth", a, i, api.ErrNone)
	}
	s.noInclusion("another Nth", a, 0, api.ErrNone)
	s.noConsistency("another Nth", a, 1, api.ErrNone)
}
