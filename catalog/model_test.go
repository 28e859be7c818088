package catalog_test

import (
	"bytes"
	"cmp"
	"crypto/sha256"
	"encoding/binary"
	"math/bits"
	"slices"

	"witness/api"
	"witness/codec"
	"witness/disk"
	"witness/node"
)

// What Open has to answer of a disk, by the document's words a second time. Records are taken apart by codec; all else is done here.

// stored is a blob in a frame of a segment's used bytes.
type stored struct {
	kind  byte
	body  []byte
	place api.Place
}

// model is what Open finds on a disk.
type model struct {
	super api.Super
	page  api.Page
	marks []api.Mark // the page's own frame in them
	there map[api.Addr]stored
	live  []api.Addr // as far as they can be read
}

// segmentOf is the bytes of a segment.
func segmentOf(d *disk.Disk, span, seg int) []byte {
	var b []byte
	for i := range span {
		piece, _ := d.Read(2 + seg*span + i)
		b = append(b, piece...)
	}
	return b
}

func modelSuper(d *disk.Disk) (api.Super, bool) {
	var whole []api.Super
	for slot := range min(2, d.Sectors()) {
		b, _ := d.Read(slot)
		s, e := codec.ReadSuper(b)
		if e == api.OK && s.Size == d.Size() && s.Sectors == d.Sectors() && s.Seq%2 == uint64(slot) {
			whole = append(whole, s)
		}
	}
	if len(whole) == 0 {
		return api.Super{}, false
	}
	return slices.MaxFunc(whole, func(a, b api.Super) int { return cmp.Compare(a.Seq, b.Seq) }), true
}

// modelPage is the page of a superblock, and true, if it is one that is taken.
func modelPage(d *disk.Disk, s api.Super) (api.Page, bool) {
	none := api.Page{}
	if s.Span < 2 || s.Span > 1024 || (s.Sectors-2)/s.Span < 2 {
		return none, false
	}
	count, bytesOf := (s.Sectors-2)/s.Span, s.Span*s.Size
	if s.Page.Seg >= count || s.Page.At < 16 || s.Page.Len < 13 || s.Page.At+s.Page.Len > bytesOf {
		return none, false
	}
	b := segmentOf(d, s.Span, s.Page.Seg)
	serial, e := codec.ReadHeader(b)
	if e != api.OK {
		return none, false
	}
	f, n, e := codec.ReadFrame(serial, s.Page.At, b[s.Page.At:s.Page.At+s.Page.Len])
	if e != api.OK || n != s.Page.Len || f.Kind != 5 {
		return none, false
	}
	p, e := codec.ReadPage(f.Body)
	if e != api.OK || len(p.Marks) != count || p.Marks[s.Page.Seg].Serial != serial || p.Marks[s.Page.Seg].Used != s.Page.At {
		return none, false
	}
	if p.Window < 1 || p.Window > 64 || len(p.Versions) < 1 || len(p.Versions) > p.Window {
		return none, false
	}
	for i, v := range p.Versions {
		if v.Number+uint64(len(p.Versions)-1-i) != p.Last {
			return none, false
		}
	}
	return p, p.Annal.Size == p.Last+1 && modelAnnals(p.Annal)
}

// modelAnnals tells whether annals fit.
func modelAnnals(a api.Annal) bool {
	if a.Size > last+1 {
		return false
	}
	var sizes []uint64
	for i := 63; i >= 0; i-- {
		if a.Size&(1<<i) != 0 {
			sizes = append(sizes, 1<<i)
		}
	}
	var of []uint64
	for _, p := range a.Peaks {
		of = append(of, p.Size)
	}
	return slices.Equal(sizes, of) && bits.OnesCount64(a.Size) == len(a.Peaks)
}

// modelMarks tells whether a serial and marks are a state that fits.
func modelMarks(serial uint64, marks []api.Mark, whole int) bool {
	met := map[uint64]bool{}
	for _, m := range marks {
		if m == (api.Mark{}) {
			continue
		}
		if m.Serial < 1 || m.Serial > serial || m.Used < 16 || m.Used > whole || met[m.Serial] {
			return false
		}
		met[m.Serial] = true
	}
	return serial <= last
}

// modelOpen is what Open finds, and its answer; the power is on.
func modelOpen(d *disk.Disk) (model, api.Errno) {
	var m model
	var ok bool
	if m.super, ok = modelSuper(d); !ok {
		return model{}, api.ErrMagic
	}
	if m.page, ok = modelPage(d, m.super); !ok {
		return model{}, api.ErrPage
	}
	m.marks = slices.Clone(m.page.Marks)
	m.marks[m.super.Page.Seg].Used += m.super.Page.Len
	if !modelMarks(m.page.Serial, m.marks, m.super.Span*m.super.Size) {
		return model{}, api.ErrMarks
	}
	m.there = modelIndex(d, m.super.Span, m.marks)
	m.live, _ = modelLive(m.there, m.page, true)
	return m, api.OK
}

// modelIndex is all blobs of the used bytes, up to the first frame of each segment that is not whole.
func modelIndex(d *disk.Disk, span int, marks []api.Mark) map[api.Addr]stored {
	var segs []int
	for seg, m := range marks {
		if m.Serial != 0 {
			segs = append(segs, seg)
		}
	}
	slices.SortFunc(segs, func(a, b int) int { return cmp.Compare(marks[a].Serial, marks[b].Serial) })
	there := map[api.Addr]stored{}
	for _, seg := range segs {
		b := segmentOf(d, span, seg)[:marks[seg].Used]
		for at := 16; at < len(b); {
			f, n, e := codec.ReadFrame(marks[seg].Serial, at, b[at:])
			if e != api.OK {
				break
			}
			if f.Kind <= 4 && len(f.Body) > 0 {
				a := api.Addr{Sum: sha256.Sum256(append([]byte{f.Kind}, f.Body[1:]...)), Nth: f.Body[0]}
				there[a] = stored{f.Kind, f.Body[1:], api.Place{Seg: seg, At: at, Len: n}}
			}
			at += n
		}
	}
	return there
}

// modelLive is what a page needs, in the order of addresses, and the first error on its way; lax: what cannot be read is passed over.
func modelLive(there map[api.Addr]stored, p api.Page, lax bool) ([]api.Addr, api.Errno) {
	met := map[api.Addr]bool{}
	first := api.OK
	body := func(kind byte, a api.Addr) ([]byte, api.Errno) {
		s, ok := there[a]
		switch {
		case !ok:
			return nil, api.ErrNone
		case s.kind != kind:
			return nil, api.ErrKind
		}
		return s.body, api.OK
	}
	fails := func(e api.Errno) bool {
		if e != api.OK && first == api.OK && !lax {
			first = e
		}
		return e != api.OK
	}
	var tower func(a api.Addr)
	tower = func(a api.Addr) {
		if met[a] || first != api.OK {
			return
		}
		b, e := body(2, a)
		if fails(e) {
			return
		}
		t, e := codec.ReadTower(b)
		if e != api.OK || node.Valid(t) != api.OK {
			fails(api.ErrTower)
			return
		}
		met[a] = true
		if !t.Head && !met[t.Value] {
			if _, e := body(1, t.Value); !fails(e) {
				met[t.Value] = true
			}
		}
		for _, k := range t.Kids {
			tower(k.Addr)
		}
	}
	var annal func(a api.Addr, n uint64)
	annal = func(a api.Addr, n uint64) {
		if met[a] || first != api.OK {
			return
		}
		if n == 1 {
			if b, e := body(3, a); !fails(e) {
				if _, e := codec.ReadLeaf(b); !fails(e) {
					met[a] = true
				}
			}
			return
		}
		if b, e := body(4, a); !fails(e) {
			if f, e := codec.ReadFork(b); !fails(e) {
				met[a] = true
				annal(f.Left.Addr, n/2)
				annal(f.Right.Addr, n/2)
			}
		}
	}
	for _, v := range p.Versions {
		tower(v.Tree.Addr)
	}
	for _, k := range p.Annal.Peaks {
		annal(k.Limb.Addr, k.Size)
	}
	if first != api.OK {
		return nil, first
	}
	var l []api.Addr
	for a := range met {
		l = append(l, a)
	}
	slices.SortFunc(l, func(a, b api.Addr) int { return bytes.Compare(addrBytes(a), addrBytes(b)) })
	return l, api.OK
}

// sums of a leaf and a fork of the annals.
func leafSum(l api.Leaf) api.Sum {
	return sha256.Sum256(cat([]byte{0x15}, binary.BigEndian.AppendUint64(nil, l.Version), l.Label[:]))
}

func forkSum(left, right api.Sum) api.Sum {
	return sha256.Sum256(cat([]byte{0x16}, left[:], right[:]))
}
