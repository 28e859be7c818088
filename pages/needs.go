package pages

import (
	"slices"

	"witness/api"
)

// Part is a blob that something needs, and what it has to be.
type Part struct {
	Kind   byte
	Addr   api.Addr
	Leaves uint64 // of a part of the annals: how many
}

// Through goes through what a page needs, in the order of 14.4: look tells what a part needs itself, and whether one goes on. Parts come as often as they are needed.
func Through(p api.Page, look func(next Part) ([]Part, bool)) {
	pending := stacked(nil, rootsOf(p))
	for len(pending) > 0 {
		last := len(pending) - 1
		needs, on := look(pending[last])
		if !on {
			return
		}
		pending = stacked(pending[:last], needs)
	}
}

// stacked lays parts on top of others, so that the first one is taken first.
func stacked(pending, parts []Part) []Part {
	for _, p := range slices.Backward(parts) {
		pending = append(pending, p)
	}
	return pending
}

// rootsOf are the heads of the trees and the annals' peaks.
func rootsOf(p api.Page) []Part {
	var roots []Part
	for _, v := range p.Versions {
		roots = append(roots, towerAt(v.Tree.Addr))
	}
	for _, peak := range p.Annal.Peaks {
		roots = append(roots, annalsAt(peak.Limb.Addr, peak.Size))
	}
	return roots
}

// OfTower is what a tower needs.
func OfTower(t api.Tower) []Part {
	var needs []Part
	if !t.Head {
		needs = append(needs, Part{Kind: api.KindValue, Addr: t.Value})
	}
	for _, k := range t.Kids {
		needs = append(needs, towerAt(k.Addr))
	}
	return needs
}

// OfFork is what a fork over so many leaves needs.
func OfFork(f api.Fork, leaves uint64) []Part {
	return []Part{annalsAt(f.Left.Addr, leaves/2), annalsAt(f.Right.Addr, leaves/2)}
}

func towerAt(a api.Addr) Part { return Part{Kind: api.KindTower, Addr: a} }

// annalsAt is a part of the annals: only that of one leaf is a leaf.
func annalsAt(a api.Addr, leaves uint64) Part {
	if leaves == 1 {
		return Part{Kind: api.KindLeaf, Addr: a, Leaves: leaves}
	}
	return Part{Kind: api.KindFork, Addr: a, Leaves: leaves}
}
