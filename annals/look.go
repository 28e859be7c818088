package annals

import (
	"witness/api"
	"witness/blobs"
	"witness/codec"
)

// Leaf is the i-th leaf.
func Leaf(b *blobs.Blobs, a api.Annal, i uint64) (api.Leaf, api.Errno) {
	if errno := unlessLeaf(a, i); errno != api.OK {
		return api.Leaf{}, errno
	}
	part := a.Peaks
	for _, s := range leafWay(i, a.Size) {
		first, others, errno := halves(b, part)
		if errno != api.OK {
			return api.Leaf{}, errno
		}
		if s == toFirst {
			part = first
		} else {
			part = others
		}
	}
	return leafAt(b, part[0].Limb.Addr)
}

// Inclusion is the path that shows the i-th leaf.
func Inclusion(b *blobs.Blobs, a api.Annal, i uint64) ([]api.Sum, api.Errno) {
	if errno := unlessLeaf(a, i); errno != api.OK {
		return nil, errno
	}
	return pathOf(b, a.Peaks, leafWay(i, a.Size))
}

// Consistency is the path that shows that the first so many leaves were the annals once.
func Consistency(b *blobs.Blobs, a api.Annal, size uint64) ([]api.Sum, api.Errno) {
	switch {
	case !fits(a):
		return nil, api.ErrHead
	case size > a.Size:
		return nil, api.ErrLeaf
	}
	return pathOf(b, a.Peaks, growthWay(size, a.Size))
}

// unlessLeaf is why annals have no i-th leaf; OK, if they have.
func unlessLeaf(a api.Annal, i uint64) api.Errno {
	switch {
	case !fits(a):
		return api.ErrHead
	case i >= a.Size:
		return api.ErrLeaf
	}
	return api.OK
}

// pathOf is the labels beside a way down from some peaks, those at its end first.
func pathOf(b *blobs.Blobs, peaks []api.Peak, way []step) ([]api.Sum, api.Errno) {
	met := api.OK
	var labels func(part []api.Peak, way []step) []api.Sum
	labels = func(part []api.Peak, way []step) []api.Sum {
		switch {
		case len(way) == 0:
			return nil
		case way[0] == own:
			return []api.Sum{over(part)}
		}
		first, others, errno := halves(b, part)
		switch {
		case errno != api.OK:
			met = errno
			return nil
		case way[0] == toFirst:
			return append(labels(first, way[1:]), over(others))
		}
		return append(labels(others, way[1:]), over(first))
	}
	path := labels(peaks, way)
	if met != api.OK {
		return nil, met
	}
	return path, api.OK
}

// halves are the two sides of the fork over the leaves of some peaks, more than one leaf: it is stored only where there is one peak.
func halves(b *blobs.Blobs, part []api.Peak) (first, others []api.Peak, errno api.Errno) {
	if n := len(part); n > 1 {
		return part[:1:1], part[1:n:n], api.OK
	}
	fork, errno := forkAt(b, part[0].Limb.Addr)
	if errno != api.OK {
		return nil, nil, errno
	}
	size := part[0].Size >> 1
	return []api.Peak{{Size: size, Limb: fork.Left}}, []api.Peak{{Size: size, Limb: fork.Right}}, api.OK
}

func leafAt(b *blobs.Blobs, a api.Addr) (api.Leaf, api.Errno) {
	body, errno := get(b, api.KindLeaf, a)
	if errno != api.OK {
		return api.Leaf{}, errno
	}
	return codec.ReadLeaf(body)
}

func forkAt(b *blobs.Blobs, a api.Addr) (api.Fork, api.Errno) {
	body, errno := get(b, api.KindFork, a)
	if errno != api.OK {
		return api.Fork{}, errno
	}
	return codec.ReadFork(body)
}

// isNone tells whether there are no blobs at all: nothing is found there, and there is no room.
func isNone(b *blobs.Blobs) bool { return b == nil || b.Log() == nil }

func put(b *blobs.Blobs, kind byte, body []byte) (api.Addr, api.Errno) {
	if isNone(b) {
		return api.Addr{}, api.ErrFull
	}
	return b.Put(kind, body)
}

func get(b *blobs.Blobs, kind byte, a api.Addr) ([]byte, api.Errno) {
	if isNone(b) {
		return nil, api.ErrNone
	}
	return b.Get(kind, a)
}
