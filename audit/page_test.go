package audit_test

import (
	"fmt"
	"slices"
	"testing"

	"witness/api"
	"witness/catalog"
)

// pageFault is what is done to a scene so that its page is not taken, or its marks.
type pageFault struct {
	name string
	do   func(s *scene)
}

func onSuper(f func(x *api.Super)) func(s *scene) {
	return func(s *scene) { s.supers = append(s.supers, f) }
}

func onPage(f func(p *api.Page)) func(s *scene) {
	return func(s *scene) { s.pages = append(s.pages, f) }
}

func onHeader(f func(b []byte) []byte) func(s *scene) {
	return func(s *scene) { s.headers = append(s.headers, f) }
}

func onBody(f func(b []byte) []byte) func(s *scene) {
	return func(s *scene) { s.bodies = append(s.bodies, f) }
}

// ended makes a page that of a store whose newest version has that number.
func ended(p *api.Page, l uint64) {
	p.Last = l
	for i := range p.Versions {
		p.Versions[i].Number = l + 1 - uint64(len(p.Versions)-i)
	}
	p.Annal = api.Annal{Size: l + 1}
	for _, n := range powers(l + 1) {
		p.Annal.Peaks = append(p.Annal.Peaks, api.Peak{Size: n, Limb: api.Limb{Addr: nowhere("peak")}})
	}
}

// pageFaults are all that 14.2.3 asks of a superblock's page, each thing broken alone.
var pageFaults = []pageFault{
	{"Span 0", onSuper(func(s *api.Super) { s.Span = 0 })},
	{"Span 1", onSuper(func(s *api.Super) { s.Span = 1 })},
	{"Span 1025", onSuper(func(s *api.Super) { s.Span = 1025 })},
	{"the greatest Span", onSuper(func(s *api.Super) { s.Span = 1<<32 - 1 })},
	{"one segment", onSuper(func(s *api.Super) { s.Span = s.Sectors/2 + 1 })},
	{"another Span", onSuper(func(s *api.Super) { s.Span-- })},
	{"no such segment", onSuper(func(s *api.Super) { s.Page.Seg = sceneCount })},
	{"the greatest segment", onSuper(func(s *api.Super) { s.Page.Seg = 1<<32 - 1 })},
	{"a free segment", onSuper(func(s *api.Super) { s.Page.Seg = sceneCount - 1 })},
	{"another segment in use", onSuper(func(s *api.Super) { s.Page.Seg-- })},
	{"At 15", onSuper(func(s *api.Super) { s.Page.At = 15 })},
	{"At 0", onSuper(func(s *api.Super) { s.Page.At = 0 })},
	{"At one more", onSuper(func(s *api.Super) { s.Page.At++ })},
	{"the greatest At", onSuper(func(s *api.Super) { s.Page.At = 1<<32 - 1 })},
	{"Len 12", onSuper(func(s *api.Super) { s.Page.Len = 12 })},
	{"Len 0", onSuper(func(s *api.Super) { s.Page.Len = 0 })},
	{"Len one less", onSuper(func(s *api.Super) { s.Page.Len-- })},
	{"Len one more", onSuper(func(s *api.Super) { s.Page.Len++ })},
	{"Len up to the segment's end and one more", onSuper(func(s *api.Super) { s.Page.Len = sceneBytes - s.Page.At + 1 })},
	{"the greatest Len", onSuper(func(s *api.Super) { s.Page.Len = 1<<32 - 1 })},
	{"another frame", onSuper(func(s *api.Super) { s.Page.At, s.Page.Len = 16, 13+2+len("value of ") })},
	{"a header's letter", onHeader(func(b []byte) []byte { b[3] ^= 1; return b })},
	{"a header's check sum", onHeader(func(b []byte) []byte { b[15] ^= 1; return b })},
	{"a header with another serial", onHeader(func([]byte) []byte { return headerBytes(99) })},
	{"a header with a serial above the last", func(s *scene) { s.beginWith(sceneCount-1, last+1) }},
	{"a value's frame", func(s *scene) { s.kind = 1 }},
	{"a fork's frame", func(s *scene) { s.kind = 4 }},
	{"a frame of the kind 6", func(s *scene) { s.kind = 6 }},
	{"a byte behind the page", onBody(func(b []byte) []byte { return append(b, 0) })},
	{"a byte less of the page", onBody(func(b []byte) []byte { return b[:len(b)-1] })},
	{"an empty body", onBody(func([]byte) []byte { return nil })},
	{"a mark less", onPage(func(p *api.Page) { p.Marks = p.Marks[:len(p.Marks)-1] })},
	{"a mark more", onPage(func(p *api.Page) { p.Marks = append(p.Marks, api.Mark{}) })},
	{"no marks", onPage(func(p *api.Page) { p.Marks = nil })},
	{"the page's mark with another serial", onPage(func(p *api.Page) { current(p).Serial++; p.Serial++ })},
	{"the page's mark with another Used", onPage(func(p *api.Page) { current(p).Used++ })},
	{"the page's mark free", onPage(func(p *api.Page) { *current(p) = api.Mark{} })},
	{"the window 0", onPage(func(p *api.Page) { p.Window = 0 })},
	{"the window 65", onPage(func(p *api.Page) { p.Window = 65 })},
	{"more versions than the window", onPage(func(p *api.Page) { p.Window = 2 })},
	{"no version", onPage(func(p *api.Page) { p.Versions = nil })},
	{"a version's number twice", onPage(func(p *api.Page) { p.Versions[1].Number = p.Versions[2].Number })},
	{"versions in another order", onPage(func(p *api.Page) { slices.Reverse(p.Versions) })},
	{"a gap", onPage(func(p *api.Page) { p.Versions[0].Number-- })},
	{"the newest version is not the last", onPage(func(p *api.Page) { p.Versions = p.Versions[:2] })},
	{"a last number one more", onPage(func(p *api.Page) { p.Last++ })},
	{"a last number above the last", onPage(func(p *api.Page) { ended(p, last+1) })},
	{"annals of a leaf more", onPage(func(p *api.Page) { l := p.Last; ended(p, l+1); p.Last = l; back(p) })},
	{"annals of a leaf less", onPage(func(p *api.Page) { l := p.Last; ended(p, l-1); p.Last = l; back(p) })},
	{"annals without peaks", onPage(func(p *api.Page) { p.Annal.Peaks = nil })},
	{"a peak less", onPage(func(p *api.Page) { p.Annal.Peaks = p.Annal.Peaks[1:] })},
	{"a peak more", onPage(func(p *api.Page) { p.Annal.Peaks = append(p.Annal.Peaks, api.Peak{Size: 1}) })},
	{"peaks in another order", onPage(func(p *api.Page) { slices.Reverse(p.Annal.Peaks) })},
	{"a peak with another size", onPage(func(p *api.Page) { p.Annal.Peaks[0].Size = 2 })},
}

// back gives the versions their numbers again.
func back(p *api.Page) {
	for i := range p.Versions {
		p.Versions[i].Number = p.Last + 1 - uint64(len(p.Versions)-i)
	}
}

// current is the mark of the segment with the greatest serial.
func current(p *api.Page) *api.Mark {
	at := 0
	for seg, m := range p.Marks {
		if m.Serial > p.Marks[at].Serial {
			at = seg
		}
	}
	return &p.Marks[at]
}

// freeMark gives a free segment a mark.
func freeMark(m func(p *api.Page) api.Mark) func(s *scene) {
	return onPage(func(p *api.Page) { p.Marks[slices.Index(p.Marks, api.Mark{})] = m(p) })
}

// markFaults are marks and serials that segment.Open refuses.
var markFaults = []pageFault{
	{"a serial less than a mark's", onPage(func(p *api.Page) { p.Serial-- })},
	{"the serial 0", onPage(func(p *api.Page) { p.Serial = 0 })},
	{"a mark without a serial", freeMark(func(*api.Page) api.Mark { return api.Mark{Used: 16} })},
	{"a mark with Used 0", freeMark(func(p *api.Page) api.Mark { p.Serial++; return api.Mark{Serial: p.Serial} })},
	{"a mark with Used 15", freeMark(func(p *api.Page) api.Mark { p.Serial++; return api.Mark{Serial: p.Serial, Used: 15} })},
	{"a mark behind the segment's end", freeMark(func(p *api.Page) api.Mark { p.Serial++; return api.Mark{Serial: p.Serial, Used: sceneBytes + 1} })},
	{"a serial twice", freeMark(func(p *api.Page) api.Mark { return api.Mark{Serial: p.Serial, Used: 16} })},
	{"a mark's serial above the last one", freeMark(func(p *api.Page) api.Mark { return api.Mark{Serial: p.Serial + 1, Used: 16} })},
}

// TestPages: a page that is not taken is the one thing that is told, whatever else is wrong.
func TestPages(t *testing.T) {
	for _, row := range []struct {
		want   api.Errno
		faults []pageFault
	}{{api.ErrPage, pageFaults}, {api.ErrMarks, markFaults}} {
		for _, f := range row.faults {
			for i, more := range []map[string]string{nil, {"5:c": "missing", "6+1": "another version"}} {
				s := sceneOf(t, 7, more)
				f.do(s)
				d := s.lay()
				if i > 0 {
					turn(d, sceneSpan, 0, 20, 1)
				}
				holds(t, "17.3: "+f.name, alike(t, f.name, d), [6]int{0: 1}, of(row.want, 0))
				if _, e := catalog.Open(d); e != row.want {
					t.Errorf("14.2: %s: Open = %d, want %d", f.name, e, row.want)
				}
			}
		}
	}
}

// TestPagesThatAreTaken: the same, at the edge.
func TestPagesThatAreTaken(t *testing.T) {
	for _, f := range []pageFault{
		{"the window 64", onPage(func(p *api.Page) { p.Window = 64 })},
		{"a window of as many versions", onPage(func(p *api.Page) { p.Window = 3 })},
		{"a serial above all marks'", onPage(func(p *api.Page) { p.Serial = last })},
		{"the last serial", func(s *scene) { s.beginWith(sceneCount-1, last) }},
		{"two slots", func(s *scene) { s.seq = last }},
	} {
		s := sceneOf(t, 7, nil)
		f.do(s)
		d := s.lay()
		r := alike(t, f.name, d)
		finds(t, "17.3: "+f.name, r)
		open(t, d)
	}
	s := sceneOf(t, 1, nil)
	finds(t, "17.3: one version", alike(t, "one version", s.lay()))
	s = sceneOf(t, 7, nil)
	s.pages = append(s.pages, func(p *api.Page) { ended(p, last) })
	r := alike2(t, "the last version", s.lay())
	finds(t, "17.7: the last version", r, of(api.ErrLeaf, 0))
	freed := sceneOf(t, 7, nil)
	freeMark(func(p *api.Page) api.Mark { p.Serial++; return api.Mark{Serial: p.Serial, Used: 16} })(freed)
	r = alike(t, "a segment without a header", freed.lay())
	finds(t, "17.4: a segment without a header", r, at(api.ErrForm, slices.Index(freed.strips, nil), 0))
	if want := 1 + run(t, sceneOf(t, 7, nil).lay(), 1).Segments; r.Segments != want {
		t.Errorf("17.4: %d segments, want %d", r.Segments, want)
	}
}

// TestSegmentsOfAStore: as many sectors as a segment may have, and one less or more; two segments, and one.
func TestSegmentsOfAStore(t *testing.T) {
	for _, row := range []struct {
		size, span, count int
		want              []api.Finding
	}{
		{4096, 1, 4, []api.Finding{of(api.ErrPage, 0)}},
		{4096, 2, 2, nil},
		{128, 1024, 2, nil},
		{128, 1025, 2, []api.Finding{of(api.ErrPage, 0)}},
		{128, 1024, 1, []api.Finding{of(api.ErrPage, 0)}},
		{4096, 2, 1, []api.Finding{of(api.ErrPage, 0)}},
	} {
		s := (&scene{shelf: newShelf(t, row.size, row.span, row.count)}).of(1)
		what := fmt.Sprintf("17.3: %d segments of %d sectors of %d bytes", row.count, row.span, row.size)
		finds(t, what, alike(t, what, s.lay()), row.want...)
	}
}

// TestPageInHeader: a page's frame that begins in its segment's header, though both are whole; and one that begins just behind it.
func TestPageInHeader(t *testing.T) {
	serial := uint64(1)
	for headerBytes(serial)[15] != 0 { // as a frame's first byte is
		serial++
	}
	for first, want := range map[int][]api.Finding{15: {of(api.ErrPage, 0)}, 16: nil} {
		s := sceneOf(t, 7, nil)
		s.beginWith(sceneCount-1, serial+100)
		header := headerBytes(serial)
		s.strips[sceneCount-1] = &strip{serial: serial, bytes: header[:first]}
		for i, x := range s.strips[:sceneCount-1] {
			if x != nil {
				s.strips[i] = again(x, serial+1+uint64(i))
			}
		}
		r := alike(t, "a page in a header", s.lay())
		finds(t, fmt.Sprint("17.3: a page from byte ", first, " on"), r, want...)
	}
}

// TestPagesInSegments: the page's own frame belongs to its segment's used bytes, as the last one; what lies behind it, or in free segments, means nothing.
func TestPagesInSegments(t *testing.T) {
	s := sceneOf(t, 7, nil)
	frames := run(t, s.lay(), 1).Frames
	s = sceneOf(t, 7, nil)
	d := s.lay()
	place := modelSlots(d)[0].Page
	x := s.strips[place.Seg]
	behind := cat(frameBytes(x.serial, len(x.bytes), 1, []byte("\x00whole")), []byte("noise"))
	poke(d, 2+place.Seg*sceneSpan, len(x.bytes), behind)
	poke(d, 2+(sceneCount-1)*sceneSpan, 0, cat(headerBytes(77), frameBytes(77, 16, 1, []byte("\x00whole"))))
	r := alike(t, "behind the page", d)
	finds(t, "17.4: behind the page", r)
	if r.Frames != frames || r.Frames != r.Blobs+1 {
		t.Errorf("17.4: %d frames, want %d", r.Frames, frames)
	}
	for at := range 40 {
		x := d.Copy()
		turn(x, sceneSpan, place.Seg, place.At+place.Len+at, 1)
		turn(x, sceneSpan, sceneCount-1, at, 1)
		if !sameReport(run(t, x, 2), r) {
			t.Error("17.4: what is not used is looked at")
		}
	}
	for i := range place.Len {
		turn(d, sceneSpan, place.Seg, place.At+i, 1)
		holds(t, fmt.Sprint("17.12: byte ", i, " of the page"), run(t, d, 2), [6]int{0: 1}, of(api.ErrPage, 0))
		turn(d, sceneSpan, place.Seg, place.At+i, 1)
	}
}
