package annals_test

import (
	"slices"

	"witness/api"
)

// sparse are annals of any size of which only the ways to some leaves are stored: what lies beside them has an address at which nothing is, and a label that was made up.
type sparse struct {
	store
	near  []uint64 // leaves, rising
	limbs map[[2]uint64]api.Limb
	annal api.Annal
}

func (s store) sparse(size uint64, near ...uint64) *sparse {
	s.t.Helper()
	slices.Sort(near)
	x := &sparse{store: s, near: near, limbs: map[[2]uint64]api.Limb{}, annal: api.Annal{Size: size}}
	from := uint64(0)
	for _, n := range sizes(size) {
		x.annal.Peaks = append(x.annal.Peaks, api.Peak{Size: n, Limb: x.limb(from, n)})
		from += n
	}
	return x
}

// limb is the part of the n leaves, a power of 2, from one on.
func (x *sparse) limb(from, n uint64) api.Limb {
	x.t.Helper()
	if l, there := x.limbs[[2]uint64{from, n}]; there {
		return l
	}
	l := x.newLimb(from, n)
	x.limbs[[2]uint64{from, n}] = l
	return l
}

func (x *sparse) newLimb(from, n uint64) api.Limb {
	x.t.Helper()
	at, _ := slices.BinarySearch(x.near, from)
	if at == len(x.near) || x.near[at]-from >= n {
		return api.Limb{Addr: api.Addr{Sum: sumOf([]byte("address"), long(from), long(n)), Nth: 7}, Label: sumOf([]byte("label"), long(from), long(n))}
	}
	if n == 1 {
		l := leafOf(from)
		return api.Limb{Addr: x.put(api.KindLeaf, leafRecord(l)), Label: leafSum(l)}
	}
	f := api.Fork{Left: x.limb(from, n/2), Right: x.limb(from+n/2, n/2)}
	return api.Limb{Addr: x.put(api.KindFork, forkRecord(f)), Label: forkSum(f.Left.Label, f.Right.Label)}
}

// over is the label over some leaves.
func (x *sparse) over(from, n uint64) api.Sum {
	if n == 0 {
		return sumOf([]byte{0x15})
	}
	if n&(n-1) == 0 {
		return x.limb(from, n).Label
	}
	k := half(n)
	return forkSum(x.over(from, k), x.over(from+k, n-k))
}

// head is that of the first n leaves.
func (x *sparse) head(n uint64) api.Head { return api.Head{Size: n, Label: x.over(0, n)} }

// greatSizes are numbers of leaves that no list has.
func greatSizes(n *noise) []uint64 {
	l := []uint64{last + 1, last, last - 1, last - 2, 1<<61 + 1, 1 << 61, 1<<61 - 1, 1<<32 + 1, 1 << 32, 1<<32 - 1, 1 << 31, 1<<33 + 1<<5}
	for range 12 {
		l = append(l, 1+n.next()>>(2+n.below(30)))
	}
	return l
}

// placesIn are numbers from 0 to n and below: the ends, the edges of the peaks, and others.
func placesIn(n *noise, size uint64) []uint64 {
	l := []uint64{0, 1, 2, 3, size / 2, size / 3, size - 1, size - 2}
	from := uint64(0)
	for _, p := range sizes(size)[:min(3, len(sizes(size)))] {
		from += p
		l = append(l, from-1, from, from+1, from-p/2, from-p/2-1)
	}
	for range 4 {
		l = append(l, n.below(size))
	}
	slices.Sort(l)
	l = slices.Compact(l)
	return slices.DeleteFunc(l, func(i uint64) bool { return i >= size })
}
