package audit

import (
	"bytes"

	"witness/api"
	"witness/node"
)

// verdict is what is said of a kept version.
type verdict struct {
	keys     uint64 // of a tree that is whole
	findings []api.Finding
}

// judged is what is said of each kept version.
func judged(there index, p api.Page, workers int) []verdict {
	return deal(p.Versions, workers, func() func(v api.Version) verdict {
		w := walker{there: there, met: map[api.Addr]stretch{}}
		return func(v api.Version) verdict { return w.judge(v, p.Annal) }
	})
}

// walker goes through trees. What hangs at a tower hangs on its address alone: so it is looked at once, in however many places and versions it stands.
type walker struct {
	there index
	met   map[api.Addr]stretch
}

// stretch is the keys that hang at a tower.
type stretch struct {
	whole bool
	last  []byte // the greatest of them, if it is whole
}

// judge looks at a version's tree and at its leaf.
func (w walker) judge(v api.Version, a api.Annal) verdict {
	var found verdict
	if w.whole(v.Tree) {
		found.keys = v.Tree.Count
	} else {
		found.findings = append(found.findings, finding(api.ErrTree, v.Number))
	}
	if l := w.there.shown(a, v.Number); l != nil && l.Label != v.Tree.Label {
		found.findings = append(found.findings, finding(api.ErrLabel, v.Number))
	}
	return found
}

// whole tells whether a tree is.
func (w walker) whole(t api.Tree) bool {
	head := w.there[t.Addr].tower
	if head == nil || !head.Head || head.count != t.Count || digestOf(node.RootText(head.count, head.label)) != t.Label {
		return false
	}
	return w.hanging(t.Addr).whole
}

// hanging is what hangs at a tower that is there. The towers wait until what hangs at their kids is known; keys rise from each tower to its kids, so none waits for itself.
func (w walker) hanging(at api.Addr) stretch {
	waiting := []api.Addr{at}
	for len(waiting) > 0 {
		top := len(waiting) - 1
		addr := waiting[top]
		t := w.there[addr].tower
		kids := w.unmet(t)
		if len(kids) > 0 {
			waiting = append(waiting, kids...)
			continue
		}
		w.met[addr] = w.joined(t)
		waiting = waiting[:top]
	}
	return w.met[at]
}

// unmet is the kids of a tower that fit, and of which nothing is known yet.
func (w walker) unmet(t *tower) []api.Addr {
	var l []api.Addr
	for _, k := range t.Kids {
		if _, again := w.met[k.Addr]; !again && w.fits(k) {
			l = append(l, k.Addr)
		}
	}
	return l
}

// fits tells whether a kid is what its tower says of it.
func (w walker) fits(k api.Kid) bool {
	t := w.there[k.Addr].tower
	return t != nil && !t.Head && bytes.Equal(t.Key, k.Key) && t.count == k.Count && t.label == k.Label
}

// joined is what hangs at a tower of whose kids all is known.
func (w walker) joined(t *tower) stretch {
	if !t.Head && !w.there[t.Value].value {
		return stretch{}
	}
	s := stretch{whole: true, last: t.Key}
	for i, k := range t.Kids {
		hangs := w.met[k.Addr]
		switch {
		case !w.fits(k) || !hangs.whole:
			return stretch{}
		case i == 0: // the highest kid, behind all others
			s.last = hangs.last
		case bytes.Compare(hangs.last, t.Kids[i-1].Key) >= 0:
			return stretch{}
		}
	}
	return s
}
