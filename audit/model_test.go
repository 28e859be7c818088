package audit_test

import (
	"bytes"
	"cmp"
	"crypto/sha256"
	"slices"

	"witness/api"
	"witness/codec"
	"witness/digest"
	"witness/disk"
	"witness/node"
	"witness/segment"
)

// What Run has to answer of a disk, by the document's words a second time: step by step, without any care for how long it takes. Records are taken apart by codec, segments by segment.

// weak tells whether this is the copy of the program whose digests are cut to one byte.
func weak() bool {
	s := digest.Of()
	return s != sha256.Sum256(nil)
}

// sum is a text's digest.
func sum(parts ...[]byte) api.Sum {
	s := api.Sum(sha256.Sum256(cat(parts...)))
	if weak() {
		clear(s[1:])
	}
	return s
}

// held is a blob that is there.
type held struct {
	kind byte
	body []byte
}

type audited struct {
	there    map[api.Addr]held
	page     api.Page
	findings map[api.Finding]bool
}

// modelSlots is the superblocks that are whole.
func modelSlots(d *disk.Disk) []api.Super {
	var l []api.Super
	for slot := range min(2, d.Sectors()) {
		b, _ := d.Read(slot)
		s, e := codec.ReadSuper(b)
		if e == api.OK && s.Size == d.Size() && s.Sectors == d.Sectors() && s.Seq%2 == uint64(slot) {
			l = append(l, s)
		}
	}
	return l
}

// modelPage is the page of a superblock, and true, if it is one that is taken.
func modelPage(d *disk.Disk, s api.Super) (api.Page, bool) {
	none := api.Page{}
	if s.Span < 2 || s.Span > 1024 || (s.Sectors-2)/s.Span < 2 {
		return none, false
	}
	count, whole := (s.Sectors-2)/s.Span, s.Span*s.Size
	if s.Page.Seg >= count || s.Page.At < 16 || s.Page.Len < 13 || s.Page.At+s.Page.Len > whole {
		return none, false
	}
	var b []byte
	for i := range s.Span {
		piece, _ := d.Read(2 + s.Page.Seg*s.Span + i)
		b = append(b, piece...)
	}
	serial, e := codec.ReadHeader(b)
	if e != api.OK {
		return none, false
	}
	f, n, e := codec.ReadFrame(serial, s.Page.At, b[s.Page.At:s.Page.At+s.Page.Len])
	if e != api.OK || n != s.Page.Len || f.Kind != 5 {
		return none, false
	}
	p, e := codec.ReadPage(f.Body)
	if e != api.OK || len(p.Marks) != count || p.Marks[s.Page.Seg] != (api.Mark{Serial: serial, Used: s.Page.At}) {
		return none, false
	}
	if p.Window < 1 || p.Window > 64 || len(p.Versions) < 1 || len(p.Versions) > p.Window {
		return none, false
	}
	for i, v := range p.Versions {
		if v.Number+uint64(len(p.Versions)-1-i) != p.Last {
			return none, false
		}
	}
	var sizes []uint64
	for _, k := range p.Annal.Peaks {
		sizes = append(sizes, k.Size)
	}
	return p, p.Annal.Size == p.Last+1 && slices.Equal(sizes, powers(p.Annal.Size))
}

// powers are the powers of 2 of a number, the greatest first.
func powers(n uint64) []uint64 {
	var l []uint64
	for i := 63; i >= 0; i-- {
		if n&(1<<i) != 0 {
			l = append(l, 1<<i)
		}
	}
	return l
}

// model is the report of a disk whose power is on.
func model(d *disk.Disk) api.Report {
	slots := modelSlots(d)
	r := api.Report{Slots: len(slots)}
	if len(slots) == 0 {
		r.Findings = []api.Finding{of(api.ErrMagic, 0)}
		return r
	}
	super := slices.MaxFunc(slots, func(a, b api.Super) int { return cmp.Compare(a.Seq, b.Seq) })
	page, ok := modelPage(d, super)
	if !ok {
		r.Findings = []api.Finding{of(api.ErrPage, 0)}
		return r
	}
	marks := slices.Clone(page.Marks)
	marks[super.Page.Seg].Used += super.Page.Len
	log, e := segment.Open(d, super.Span, page.Serial, marks)
	if e != api.OK {
		r.Findings = []api.Finding{of(e, 0)}
		return r
	}
	m := &audited{there: map[api.Addr]held{}, page: page, findings: map[api.Finding]bool{}}
	m.segments(&r, log, marks)
	r.Blobs = len(m.there)
	r.Keys = m.trees()
	r.Live = m.live()
	m.annals()
	for f := range m.findings {
		r.Findings = append(r.Findings, f)
	}
	slices.SortFunc(r.Findings, func(a, b api.Finding) int {
		return cmp.Or(cmp.Compare(a.Seg, b.Seg), cmp.Compare(a.At, b.At), cmp.Compare(a.Version, b.Version), cmp.Compare(a.Code, b.Code))
	})
	return r
}

// segments counts segments and frames, and makes the index.
func (m *audited) segments(r *api.Report, log *segment.Log, marks []api.Mark) {
	var segs []int
	for seg, mark := range marks {
		if mark.Serial != 0 {
			segs = append(segs, seg)
		}
	}
	slices.SortFunc(segs, func(a, b int) int { return cmp.Compare(marks[a].Serial, marks[b].Serial) })
	for _, seg := range segs {
		r.Segments++
		if n, e := log.Check(seg); e != api.OK {
			m.findings[at(e, seg, n)] = true
		}
		for p, f := range log.Frames(seg) {
			r.Frames++
			switch {
			case f.Kind > 4:
			case len(f.Body) == 0:
				m.findings[at(api.ErrForm, seg, p.At)] = true
			default:
				m.there[api.Addr{Sum: sum([]byte{f.Kind}, f.Body[1:]), Nth: f.Body[0]}] = held{f.Kind, f.Body[1:]}
			}
		}
	}
}

func (m *audited) body(kind byte, a api.Addr) ([]byte, bool) {
	h, there := m.there[a]
	return h.body, there && h.kind == kind
}

func (m *audited) tower(a api.Addr) (api.Tower, bool) {
	b, ok := m.body(2, a)
	t, e := codec.ReadTower(b)
	return t, ok && e == api.OK && node.Valid(t) == api.OK
}

// trees is the keys of all trees that are whole.
func (m *audited) trees() uint64 {
	keys := uint64(0)
	for _, v := range m.page.Versions {
		if m.whole(v.Tree) {
			keys += v.Tree.Count
		} else {
			m.findings[of(api.ErrTree, v.Number)] = true
		}
	}
	return keys
}

func (m *audited) whole(t api.Tree) bool {
	head, ok := m.tower(t.Addr)
	if !ok || !head.Head || node.Count(head) != t.Count || sum([]byte{0x14}, long(t.Count), labelOf(head)) != t.Label {
		return false
	}
	_, ok = m.keys(head, nil)
	return ok
}

func labelOf(t api.Tower) []byte {
	s := node.Label(t)
	return s[:]
}

// keys are those that hang at a tower; false: it is not whole. Where there is a bound they must be less.
func (m *audited) keys(t api.Tower, bound []byte) ([]string, bool) {
	var l []string
	if !t.Head {
		v, ok := m.body(1, t.Value)
		if !ok || len(v) > 65536 {
			return nil, false
		}
		l = append(l, string(t.Key))
	}
	for i, k := range slices.Backward(t.Kids) {
		next := bound
		if i > 0 {
			next = t.Kids[i-1].Key
		}
		kid, ok := m.tower(k.Addr)
		if !ok || kid.Head || !bytes.Equal(kid.Key, k.Key) || node.Count(kid) != k.Count || node.Label(kid) != k.Label {
			return nil, false
		}
		if next != nil && bytes.Compare(k.Key, next) >= 0 {
			return nil, false
		}
		more, ok := m.keys(kid, next)
		if !ok {
			return nil, false
		}
		l = append(l, more...)
	}
	return l, slices.IsSorted(l)
}

// live is how many addresses that are there are met.
func (m *audited) live() int {
	met := map[api.Addr]bool{}
	meets := func(a api.Addr) bool {
		_, there := m.there[a]
		if !there || met[a] {
			return false
		}
		met[a] = true
		return true
	}
	var tower func(a api.Addr)
	tower = func(a api.Addr) {
		if !meets(a) {
			return
		}
		t, ok := m.tower(a)
		if !ok {
			return
		}
		if !t.Head {
			meets(t.Value)
		}
		for _, k := range t.Kids {
			tower(k.Addr)
		}
	}
	var part func(a api.Addr, leaves uint64)
	part = func(a api.Addr, leaves uint64) {
		if !meets(a) || leaves == 1 {
			return
		}
		b, ok := m.body(4, a)
		f, e := codec.ReadFork(b)
		if ok && e == api.OK {
			part(f.Left.Addr, leaves/2)
			part(f.Right.Addr, leaves/2)
		}
	}
	for _, v := range m.page.Versions {
		tower(v.Tree.Addr)
	}
	for _, p := range m.page.Annal.Peaks {
		part(p.Limb.Addr, p.Size)
	}
	return len(met)
}

// shown is the leaf i and whether it is shown, by its own way from its peak alone.
func (m *audited) shown(i uint64) (api.Leaf, bool) {
	rest := i
	for _, p := range m.page.Annal.Peaks {
		if rest < p.Size {
			return m.shownIn(p.Limb, p.Size, rest, i)
		}
		rest -= p.Size
	}
	panic("no such leaf")
}

func (m *audited) shownIn(l api.Limb, leaves, rest, i uint64) (api.Leaf, bool) {
	if leaves == 1 {
		b, ok := m.body(3, l.Addr)
		leaf, e := codec.ReadLeaf(b)
		ok = ok && e == api.OK && l.Label == sum([]byte{0x15}, long(leaf.Version), leaf.Label[:]) && leaf.Version == i
		return leaf, ok
	}
	b, ok := m.body(4, l.Addr)
	f, e := codec.ReadFork(b)
	switch {
	case !ok || e != api.OK || l.Label != sum([]byte{0x16}, f.Left.Label[:], f.Right.Label[:]):
		return api.Leaf{}, false
	case rest < leaves/2:
		return m.shownIn(f.Left, leaves/2, rest, i)
	}
	return m.shownIn(f.Right, leaves/2, rest-leaves/2, i)
}

// annals are asked for each leaf, one by one.
func (m *audited) annals() {
	for i := range m.page.Annal.Size {
		if _, ok := m.shown(i); !ok {
			m.findings[of(api.ErrLeaf, i)] = true
			break
		}
	}
	for _, v := range m.page.Versions {
		if l, ok := m.shown(v.Number); ok && l.Label != v.Tree.Label {
			m.findings[of(api.ErrLabel, v.Number)] = true
		}
	}
}
