package annals_test

import (
	"testing"

	"witness/annals"
	"witness/api"
)

func isHead(t *testing.T, what string, a api.Annal, want api.Sum) {
	t.Helper()
	if h := annals.Head(a); h.Size != a.Size || h.Label != want {
		t.Errorf("13.3: %s: the head of %d leaves: %d, %s, want %s", what, a.Size, h.Size, front(h.Label), front(want))
	}
}

func TestHead(t *testing.T) {
	for _, size := range edges(1024) {
		l := leavesOf(size)
		isHead(t, "annals that fit", annalsOf(l), headOf(l).Label)
	}
	n := &noise{x: 5}
	for _, size := range greatSizes(n) {
		x := wide(t).sparse(size, 0)
		isHead(t, "great annals", x.annal, x.over(0, size))
	}
}

func TestHeadOfNoPeak(t *testing.T) {
	for _, size := range append(versions, 3) {
		isHead(t, "no peak", api.Annal{Size: size}, sumOf([]byte{0x15}))
		isHead(t, "no peak", api.Annal{Size: size, Peaks: []api.Peak{}}, sumOf([]byte{0x15}))
	}
}

// TestHeadOfAnnalsThatDoNotFit: the labels alone count, from the last to the first.
func TestHeadOfAnnalsThatDoNotFit(t *testing.T) {
	for what, a := range unfit() {
		isHead(t, what, a, folded(a.Peaks))
	}
	n := &noise{x: 6}
	for many := range 100 {
		a := api.Annal{Size: n.next()}
		for range many {
			a.Peaks = append(a.Peaks, api.Peak{Size: n.next(), Limb: api.Limb{Addr: api.Addr{Sum: n.sum(), Nth: uint8(n.next())}, Label: n.sum()}})
		}
		want := folded(a.Peaks)
		isHead(t, "any peaks", a, want)
		for i := range a.Peaks {
			a.Peaks[i].Size, a.Peaks[i].Limb.Addr = n.next(), api.Addr{}
		}
		isHead(t, "other sizes and addresses", a, want)
	}
}

func folded(peaks []api.Peak) api.Sum {
	switch len(peaks) {
	case 0:
		return sumOf([]byte{0x15})
	case 1:
		return peaks[0].Limb.Label
	}
	return forkSum(peaks[0].Limb.Label, folded(peaks[1:]))
}
