package audit_test

import (
	"maps"
	"slices"
	"testing"

	"witness/api"
	"witness/disk"
)

// strip is the used bytes of a segment.
type strip struct {
	serial uint64
	bytes  []byte
}

// shelf is a store that is laid by hand, byte for byte.
type shelf struct {
	t       *testing.T
	size    int // of a sector
	span    int
	strips  []*strip // one a segment; nil: it is free
	current int
	serial  uint64 // that was given out last
	page    api.Page
	seq     uint64
	put     map[string]api.Addr // what was put once is not put again
	fillers int

	// What is done to each of them once it was made.
	supers  []func(s *api.Super)
	headers []func(b []byte) []byte // of the page's segment
	pages   []func(p *api.Page)
	bodies  []func(b []byte) []byte // of the page's frame
	kind    byte                    // of the page's frame
}

// newShelf is one without any segment in use.
func newShelf(t *testing.T, size, span, count int) *shelf {
	return &shelf{t: t, size: size, span: span, strips: make([]*strip, count), current: -1, seq: 1, kind: 5, put: map[string]api.Addr{}}
}

// begin begins a segment.
func (s *shelf) begin(seg int) {
	s.serial++
	s.beginWith(seg, s.serial)
}

func (s *shelf) beginWith(seg int, serial uint64) {
	s.strips[seg] = &strip{serial: serial, bytes: headerBytes(serial)}
	s.current, s.serial = seg, max(s.serial, serial)
}

// fits tells whether a frame with such a body fits into the current segment.
func (s *shelf) fits(body int) bool {
	return s.current >= 0 && len(s.strips[s.current].bytes)+13+body <= s.size*s.span
}

// frame lays a frame, in the next free segment if there is no room in the current one.
func (s *shelf) frame(kind byte, body []byte) api.Place {
	s.t.Helper()
	if !s.fits(len(body)) {
		free := slices.Index(s.strips, nil)
		if free < 0 {
			s.t.Fatal("the shelf is full")
		}
		s.begin(free)
	}
	x := s.strips[s.current]
	p := api.Place{Seg: s.current, At: len(x.bytes), Len: 13 + len(body)}
	x.bytes = append(x.bytes, frameBytes(x.serial, p.At, kind, body)...)
	if len(x.bytes) > s.size*s.span {
		s.t.Fatal("a frame is longer than a segment")
	}
	return p
}

// twin lays a blob's frame with that Nth.
func (s *shelf) twin(kind, nth byte, body []byte) api.Addr {
	s.t.Helper()
	s.frame(kind, append([]byte{nth}, body...))
	return api.Addr{Sum: sum([]byte{kind}, body), Nth: nth}
}

// blob lays a blob that was not laid yet.
func (s *shelf) blob(kind byte, body []byte) api.Addr {
	s.t.Helper()
	text := string(append([]byte{kind}, body...))
	if a, again := s.put[text]; again {
		return a
	}
	nth := byte(0)
	for weak() && slices.ContainsFunc(s.addrs(), func(a api.Addr) bool { return a == api.Addr{Sum: sum([]byte(text)), Nth: nth} }) {
		nth++
	}
	a := s.twin(kind, nth, body)
	s.put[text] = a
	return a
}

// addrs are those of all that was put, in an order that is the same each time.
func (s *shelf) addrs() []api.Addr {
	var l []api.Addr
	for _, text := range slices.Sorted(maps.Keys(s.put)) {
		l = append(l, s.put[text])
	}
	return l
}

// lay is a disk with the store. The page's frame is laid behind the last one, if there is room.
func (s *shelf) lay() *disk.Disk {
	s.t.Helper()
	if len(s.page.Versions) > 0 && s.page.Window == 0 {
		s.page.Window = len(s.page.Versions)
	}
	body := s.pageBody()
	if !s.fits(len(body)) {
		s.begin(slices.Index(s.strips, nil))
		body = s.pageBody()
	}
	place := s.frame(s.kind, body)
	d := newDisk(s.t, 2+len(s.strips)*s.span, s.size)
	for seg, x := range s.strips {
		if x == nil {
			continue
		}
		if seg == place.Seg {
			for _, f := range s.headers {
				copy(x.bytes, f(x.bytes[:16]))
			}
		}
		poke(d, 2+seg*s.span, 0, x.bytes)
	}
	super := api.Super{Seq: s.seq, Size: s.size, Sectors: d.Sectors(), Span: s.span, Page: place}
	for _, f := range s.supers {
		f(&super)
	}
	d.Write(int(s.seq%2), superBytes(super, s.size))
	d.Flush()
	return d
}

// pageBody is the page's bytes with the marks as they are.
func (s *shelf) pageBody() []byte {
	p := s.page
	p.Serial, p.Marks = s.serial, make([]api.Mark, len(s.strips))
	p.Versions, p.Annal.Peaks = slices.Clone(p.Versions), slices.Clone(p.Annal.Peaks)
	for seg, x := range s.strips {
		if x != nil {
			p.Marks[seg] = api.Mark{Serial: x.serial, Used: len(x.bytes)}
		}
	}
	for _, f := range s.pages {
		f(&p)
	}
	body := pageBytes(p)
	for _, f := range s.bodies {
		body = f(body)
	}
	return body
}

// again is a strip with another serial.
func again(x *strip, serial uint64) *strip {
	y := &strip{serial: serial, bytes: headerBytes(serial)}
	for at := 16; at < len(x.bytes); {
		n := int(x.bytes[at])<<24 | int(x.bytes[at+1])<<16 | int(x.bytes[at+2])<<8 | int(x.bytes[at+3])
		y.bytes = append(y.bytes, frameBytes(serial, at, x.bytes[at+4], x.bytes[at+9:at+9+n])...)
		at += 13 + n
	}
	return y
}

// poke writes bytes from a byte of a sector on.
func poke(d *disk.Disk, sector, at int, b []byte) {
	for sector, at = sector+at/d.Size(), at%d.Size(); len(b) > 0; sector, at = sector+1, 0 {
		whole, e := d.Read(sector)
		if e != api.OK {
			return
		}
		n := copy(whole[at:], b)
		b = b[n:]
		d.Write(sector, whole)
	}
}

// turn turns a byte of a segment.
func turn(d *disk.Disk, span, seg, at int, mask byte) {
	d.Rot(2+seg*span+at/d.Size(), at%d.Size(), mask)
}
