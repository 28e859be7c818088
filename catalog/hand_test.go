package catalog_test

import (
	"slices"
	"testing"

	"witness/api"
	"witness/disk"
)

// hand is a store whose superblock, page and page's header are laid by hand over what a disk has.
type hand struct {
	disk   *disk.Disk
	super  api.Super // Seg and At tell where the page is laid
	page   api.Page
	serial uint64 // of the page's segment
	kind   byte   // of the page's frame

	// What is done to each of them once it was made.
	bodies  []func(b []byte) []byte
	headers []func(b []byte) []byte
	supers  []func(s *api.Super)
}

// handOf is the store of a disk as it is.
func handOf(t *testing.T, d *disk.Disk) *hand {
	t.Helper()
	m, e := modelOpen(d)
	must(t, "14.2: the model", e)
	return &hand{disk: d, super: m.super, page: m.page, serial: m.page.Marks[m.super.Page.Seg].Serial, kind: 5}
}

// alone is the store of a disk with its page in a segment of its own.
func alone(t *testing.T, d *disk.Disk) *hand {
	t.Helper()
	h := handOf(t, d)
	m, _ := modelOpen(d)
	h.page.Marks = m.marks
	seg := slices.Index(h.page.Marks, api.Mark{})
	h.page.Serial++
	h.serial = h.page.Serial
	h.page.Marks[seg] = api.Mark{Serial: h.serial, Used: 16}
	h.super.Page = api.Place{Seg: seg, At: 16}
	return h
}

// copied is one that shares no list with this one.
func (h *hand) copied() *hand {
	x := *h
	x.page.Marks = slices.Clone(h.page.Marks)
	x.page.Versions = slices.Clone(h.page.Versions)
	x.page.Annal.Peaks = slices.Clone(h.page.Annal.Peaks)
	x.bodies, x.headers, x.supers = slices.Clone(h.bodies), slices.Clone(h.headers), slices.Clone(h.supers)
	return &x
}

// lay is a disk with the store.
func (h *hand) lay() *disk.Disk {
	d := h.disk.Copy()
	body := pageBytes(h.page)
	for _, f := range h.bodies {
		body = f(body)
	}
	header := headerBytes(h.serial)
	for _, f := range h.headers {
		header = f(header)
	}
	frame := frameBytes(h.serial, h.super.Page.At, h.kind, body)
	poke(d, 2+h.super.Page.Seg*h.super.Span, 0, header)
	poke(d, 2+h.super.Page.Seg*h.super.Span, h.super.Page.At, frame)
	s := h.super
	s.Page.Len = len(frame)
	for _, f := range h.supers {
		f(&s)
	}
	d.Write(int(s.Seq%2), superBytes(s, d.Size()))
	d.Write(1-int(s.Seq%2), make([]byte, d.Size()))
	d.Flush()
	return d
}

// poke writes bytes from a byte of a sector on.
func poke(d *disk.Disk, sector, at int, b []byte) {
	for sector, at = sector+at/d.Size(), at%d.Size(); len(b) > 0; sector, at = sector+1, 0 {
		whole, e := d.Read(sector)
		if e != api.OK {
			return
		}
		n := copy(whole[at:], b)
		b = b[n:]
		d.Write(sector, whole)
	}
}

// fault is what is done to a store, and what Open then answers.
type fault struct {
	name string
	want api.Errno
	do   func(h *hand)
}

func onSuper(f func(s *api.Super)) func(h *hand) {
	return func(h *hand) { h.supers = append(h.supers, f) }
}

func onHeader(f func(b []byte) []byte) func(h *hand) {
	return func(h *hand) { h.headers = append(h.headers, f) }
}

func onBody(f func(b []byte) []byte) func(h *hand) {
	return func(h *hand) { h.bodies = append(h.bodies, f) }
}

// onPage is for a page with three versions.
func onPage(f func(p *api.Page)) func(h *hand) {
	return func(h *hand) { f(&h.page) }
}

// peaksOf are peaks of so many leaves, at addresses at which nothing is.
func peaksOf(n uint64) []api.Peak {
	var l []api.Peak
	for i := 63; i >= 0; i-- {
		if n&(1<<i) != 0 {
			l = append(l, api.Peak{Size: 1 << i, Limb: api.Limb{Addr: api.Addr{Sum: api.Sum{byte(i)}, Nth: 9}}})
		}
	}
	return l
}

func versionsUpTo(l uint64, n int) []api.Version {
	var vs []api.Version
	for i := range n {
		vs = append(vs, api.Version{Number: l + 1 - uint64(n-i), Tree: api.Tree{Addr: api.Addr{Sum: api.Sum{77, byte(i)}}, Count: last, Label: api.Sum{byte(i)}}})
	}
	return vs
}

// ended is the page of a store whose newest version has that number.
func ended(p *api.Page, l uint64, versions int) {
	p.Last, p.Versions = l, versionsUpTo(l, versions)
	p.Annal = api.Annal{Size: l + 1, Peaks: peaksOf(l + 1)}
}

// pageFaults are all that 14.2 asks of a superblock's page, each thing broken alone.
func pageFaults() []fault {
	const no = api.ErrPage
	return []fault{
		{"Span 0", no, onSuper(func(s *api.Super) { s.Span = 0 })},
		{"Span 1", no, onSuper(func(s *api.Super) { s.Span = 1 })},
		{"Span 1025", no, onSuper(func(s *api.Super) { s.Span = 1025 })},
		{"the greatest Span", no, onSuper(func(s *api.Super) { s.Span = 1<<32 - 1 })},
		{"one segment", no, onSuper(func(s *api.Super) { s.Span = 33 })},
		{"another Span", no, onSuper(func(s *api.Super) { s.Span = 7 })},
		{"no such segment", no, onSuper(func(s *api.Super) { s.Page.Seg = segments })},
		{"the greatest segment", no, onSuper(func(s *api.Super) { s.Page.Seg = 1<<32 - 1 })},
		{"a free segment", no, onSuper(func(s *api.Super) { s.Page.Seg = segments - 1 })},
		{"At 15", no, onSuper(func(s *api.Super) { s.Page.At = 15 })},
		{"At 0", no, onSuper(func(s *api.Super) { s.Page.At = 0 })},
		{"At behind it", no, onSuper(func(s *api.Super) { s.Page.At++ })},
		{"the greatest At", no, onSuper(func(s *api.Super) { s.Page.At = 1<<32 - 1 })},
		{"Len 12", no, onSuper(func(s *api.Super) { s.Page.Len = 12 })},
		{"Len 0", no, onSuper(func(s *api.Super) { s.Page.Len = 0 })},
		{"Len 13", no, onSuper(func(s *api.Super) { s.Page.Len = 13 })},
		{"Len one less", no, onSuper(func(s *api.Super) { s.Page.Len-- })},
		{"Len one more", no, onSuper(func(s *api.Super) { s.Page.Len++ })},
		{"Len up to the segment's end", no, onSuper(func(s *api.Super) { s.Page.Len = whole - s.Page.At })},
		{"Len one above that", no, onSuper(func(s *api.Super) { s.Page.Len = whole - s.Page.At + 1 })},
		{"the greatest Len", no, onSuper(func(s *api.Super) { s.Page.Len = 1<<32 - 1 })},
		{"a header's letter", no, onHeader(func(b []byte) []byte { b[3] ^= 1; return b })},
		{"a header's serial", no, onHeader(func(b []byte) []byte { b[11] ^= 1; return b })},
		{"a header's check sum", no, onHeader(func(b []byte) []byte { b[15] ^= 1; return b })},
		{"a header with another serial", no, onHeader(func([]byte) []byte { return headerBytes(99) })},
		{"a header with a serial above the last", no, func(h *hand) { h.serial = last + 1 }},
		{"a serial that is not the mark's", no, func(h *hand) { h.serial++ }},
		{"a value's frame", no, func(h *hand) { h.kind = 1 }},
		{"a tower's frame", no, func(h *hand) { h.kind = 2 }},
		{"a leaf's frame", no, func(h *hand) { h.kind = 3 }},
		{"a fork's frame", no, func(h *hand) { h.kind = 4 }},
		{"a frame of the kind 0", no, func(h *hand) { h.kind = 0 }},
		{"a frame of the kind 6", no, func(h *hand) { h.kind = 6 }},
		{"a byte behind the page", no, onBody(func(b []byte) []byte { return append(b, 0) })},
		{"a byte less of the page", no, onBody(func(b []byte) []byte { return b[:max(1, len(b))-1] })},
		{"no byte of the page", no, onBody(func(b []byte) []byte { return nil })},
		{"a mark less", no, onPage(func(p *api.Page) { p.Marks = p.Marks[:len(p.Marks)-1] })},
		{"a mark more", no, onPage(func(p *api.Page) { p.Marks = append(p.Marks, api.Mark{}) })},
		{"no marks", no, onPage(func(p *api.Page) { p.Marks = nil })},
		{"the page's mark one less", no, func(h *hand) { h.page.Marks[h.super.Page.Seg].Used-- }},
		{"the page's mark one more", no, func(h *hand) { h.page.Marks[h.super.Page.Seg].Used++ }},
		{"the page's mark of another serial", no, func(h *hand) { h.page.Marks[h.super.Page.Seg].Serial--; h.page.Serial++ }},
		{"the page's mark of a free segment", no, func(h *hand) { h.page.Marks[h.super.Page.Seg] = api.Mark{} }},
		{"window 0", no, onPage(func(p *api.Page) { p.Window = 0 })},
		{"window 65", no, onPage(func(p *api.Page) { p.Window = 65 })},
		{"no version", no, onPage(func(p *api.Page) { p.Versions = nil })},
		{"more versions than the window", no, onPage(func(p *api.Page) { p.Window = len(p.Versions) - 1 })},
		{"a number twice", no, onPage(func(p *api.Page) { p.Versions[0].Number = p.Versions[1].Number })},
		{"numbers that fall", no, onPage(func(p *api.Page) { slices.Reverse(p.Versions) })},
		{"a number left out", no, onPage(func(p *api.Page) { p.Versions[0].Number-- })},
		{"a number left out at the end", no, onPage(func(p *api.Page) { p.Versions = p.Versions[:len(p.Versions)-1] })},
		{"a number in the middle", no, onPage(func(p *api.Page) { p.Versions[1].Number += 2 })},
		{"versions up to one above the last", no, onPage(func(p *api.Page) { p.Versions = versionsUpTo(p.Last+1, 2) })},
		{"a last one more, with annals for it", no, onPage(func(p *api.Page) { p.Last++; p.Annal = api.Annal{Size: p.Last + 1, Peaks: peaksOf(p.Last + 1)} })},
		{"a leaf too few", no, onPage(func(p *api.Page) { p.Annal = api.Annal{Size: p.Last, Peaks: peaksOf(p.Last)} })},
		{"a leaf too many", no, onPage(func(p *api.Page) { p.Annal = api.Annal{Size: p.Last + 2, Peaks: peaksOf(p.Last + 2)} })},
		{"another size alone", no, onPage(func(p *api.Page) { p.Annal.Size++ })},
		{"no peak", no, onPage(func(p *api.Page) { p.Annal.Peaks = nil })},
		{"a peak too few", no, onPage(func(p *api.Page) { p.Annal.Peaks = p.Annal.Peaks[1:] })},
		{"a peak too many", no, onPage(func(p *api.Page) { p.Annal.Peaks = append(p.Annal.Peaks, p.Annal.Peaks[0]) })},
		{"a peak of another size", no, onPage(func(p *api.Page) { p.Annal.Peaks[0].Size *= 2 })},
		{"a peak of no leaf", no, onPage(func(p *api.Page) { p.Annal.Peaks[0].Size = 0 })},
		{"versions below 0", no, onPage(func(p *api.Page) {
			p.Last, p.Annal = 0, api.Annal{Size: 1, Peaks: peaksOf(1)}
			p.Versions = []api.Version{{Number: last}, {Number: 0}}
		})},
		{"the last number and no annals", no, onPage(func(p *api.Page) { ended(p, last, 1); p.Annal = api.Annal{} })},
	}
}

// markFaults are marks and serials that a log does not take.
func markFaults() []fault {
	const no = api.ErrMarks
	free := segments - 1
	return []fault{
		{"the serial below a mark's", no, func(h *hand) { h.page.Serial-- }},
		{"the serial 0", no, func(h *hand) { h.page.Serial = 0 }},
		{"a serial twice", no, func(h *hand) { h.page.Marks[free] = api.Mark{Serial: h.serial, Used: 16} }},
		{"a serial above the last given out", no, func(h *hand) { h.page.Marks[free] = api.Mark{Serial: h.page.Serial + 1, Used: 16} }},
		{"15 bytes used", no, func(h *hand) { h.page.Marks[0].Used = 15 }},
		{"more bytes used than there are", no, func(h *hand) { h.page.Marks[0].Used = whole + 1 }},
		{"a free segment that is used", no, func(h *hand) { h.page.Marks[free] = api.Mark{Used: 16} }},
		{"nothing used of a serial", no, func(h *hand) { h.page.Marks[0].Used = 0 }},
		{"the page's segment has the serial 0", no, func(h *hand) { h.serial = 0; h.page.Marks[h.super.Page.Seg].Serial = 0 }},
	}
}

// whims are what Open takes, although no commit leaves it.
func whims() []fault {
	return []fault{
		{"as it is", api.OK, func(h *hand) {}},
		{"another Seq", api.OK, func(h *hand) { h.super.Seq = last }},
		{"the Seq 0", api.OK, func(h *hand) { h.super.Seq = 0 }},
		{"a greater window", api.OK, onPage(func(p *api.Page) { p.Window = 64 })},
		{"a window of as many versions", api.OK, onPage(func(p *api.Page) { p.Window = len(p.Versions) })},
		{"one version", api.OK, onPage(func(p *api.Page) { p.Versions = p.Versions[2:] })},
		{"the last serial", api.OK, onPage(func(p *api.Page) { p.Serial = last })},
		{"a serial more", api.OK, onPage(func(p *api.Page) { p.Serial++ })},
		{"trees that are nowhere", api.OK, onPage(func(p *api.Page) { p.Versions = versionsUpTo(p.Last, 3) })},
		{"peaks that are nowhere", api.OK, onPage(func(p *api.Page) { p.Annal.Peaks = peaksOf(p.Annal.Size) })},
		{"nothing anywhere", api.OK, onPage(func(p *api.Page) { ended(p, 1<<40, 3) })},
		{"the last number", api.OK, onPage(func(p *api.Page) { ended(p, last, 1) })},
		{"the first numbers", api.OK, onPage(func(p *api.Page) { ended(p, 2, 3) })},
		{"the number 0", api.OK, onPage(func(p *api.Page) { ended(p, 0, 1) })},
		{"the last segment that has nothing", api.OK, func(h *hand) {
			h.page.Serial++
			h.page.Marks[segments-1] = api.Mark{Serial: h.page.Serial, Used: 16}
		}},
		{"the last segment that has zeros", api.OK, func(h *hand) {
			h.page.Serial++
			h.page.Marks[segments-1] = api.Mark{Serial: h.page.Serial, Used: whole}
		}},
		{"a count and a label", api.OK, onPage(func(p *api.Page) { p.Versions[0].Tree.Count = last; p.Versions[1].Tree.Label[3]++ })},
		{"less used of a segment", api.OK, func(h *hand) { h.page.Marks[0].Used = 100 }},
		{"a free segment", api.OK, func(h *hand) { h.page.Marks[0] = api.Mark{} }},
	}
}
