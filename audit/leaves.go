package audit

import "witness/api"

// firstNotShown is the first leaf of the annals that is not shown; false, if all are. Each leaf that is shown has a blob of its own, because its version stands in it: so there are no more steps than blobs, however many leaves there are.
func (x index) firstNotShown(a api.Annal) (uint64, bool) {
	from := uint64(0)
	for _, p := range a.Peaks {
		if i, ok := x.firstNotShownIn(p, from); ok {
			return i, true
		}
		from += p.Size
	}
	return 0, false
}

// firstNotShownIn is the same of a part whose first leaf has that number.
func (x index) firstNotShownIn(p api.Peak, from uint64) (uint64, bool) {
	if p.Size == 1 {
		return from, x.leafAt(p.Limb, from) == nil
	}
	left, right, ok := x.halves(p)
	if !ok {
		return from, true
	}
	if i, ok := x.firstNotShownIn(left, from); ok {
		return i, true
	}
	return x.firstNotShownIn(right, from+left.Size)
}

// shown is the leaf i, which is below the annals' size; nil, if it is not shown.
func (x index) shown(a api.Annal, i uint64) *leaf {
	from := uint64(0)
	for _, p := range a.Peaks {
		if i < from+p.Size {
			return x.shownIn(p, from, i)
		}
		from += p.Size
	}
	return nil
}

// shownIn is the same of a part whose first leaf has the number from.
func (x index) shownIn(p api.Peak, from, i uint64) *leaf {
	for p.Size > 1 {
		left, right, ok := x.halves(p)
		if !ok {
			return nil
		}
		p = left
		if i >= from+left.Size {
			p, from = right, from+left.Size
		}
	}
	return x.leafAt(p.Limb, i)
}

// halves are the two halves of a part with more than one leaf, if its fork can be loaded and has its label.
func (x index) halves(p api.Peak) (left, right api.Peak, ok bool) {
	f := x[p.Limb.Addr].fork
	if f == nil || f.name != p.Limb.Label {
		return api.Peak{}, api.Peak{}, false
	}
	half := p.Size / 2
	return api.Peak{Size: half, Limb: f.Left}, api.Peak{Size: half, Limb: f.Right}, true
}

// leafAt is the leaf of a limb, if it can be loaded, has its label, and is the i-th one.
func (x index) leafAt(l api.Limb, i uint64) *leaf {
	f := x[l.Addr].leaf
	if f == nil || f.name != l.Label || f.Version != i {
		return nil
	}
	return f
}
