package segment_test

import (
	"bytes"
	"hash/crc32"
	"reflect"
	"testing"

	"witness/api"
	"witness/codec"
	"witness/disk"
	"witness/segment"
)

const (
	size     = 128 // of a sector
	span     = 8
	segments = 4
	whole    = size * span // of a segment
	last     = uint64(1) << 62
)

var x = api.Frame{Kind: 1, Body: []byte{0, 'x'}}

// The bytes of the document's table, made here a second time, so that the program is not held against itself.

func cat(parts ...[]byte) []byte { return bytes.Join(parts, nil) }

func word(n int) []byte { return []byte{byte(n >> 24), byte(n >> 16), byte(n >> 8), byte(n)} }

func long(n uint64) []byte { return cat(word(int(n>>32)), word(int(uint32(n)))) }

func checkOf(b []byte) []byte {
	return word(int(crc32.Checksum(b, crc32.MakeTable(crc32.Castagnoli))))
}

func headerOf(serial uint64) []byte {
	front := cat([]byte("wseg"), long(serial))
	return cat(front, checkOf(front))
}

func frameOf(serial uint64, at int, f api.Frame) []byte {
	head := cat(word(len(f.Body)), []byte{f.Kind})
	place := cat(long(serial), word(at), head)
	return cat(head, checkOf(place), f.Body, checkOf(cat(place, f.Body)))
}

// filled is these bytes, and zeros up to n bytes.
func filled(n int, parts ...[]byte) []byte {
	b := make([]byte, n)
	copy(b, cat(parts...))
	return b
}

func body(n int) api.Frame { return api.Frame{Kind: 2, Body: bytes.Repeat([]byte{'b'}, n)} }

func newDisk(t *testing.T) *disk.Disk {
	t.Helper()
	d, e := disk.New(2+segments*span, size)
	answers(t, "3.1: New", e, api.OK)
	return d
}

func open(t *testing.T, d *disk.Disk, serial uint64, marks ...api.Mark) *segment.Log {
	t.Helper()
	l, e := segment.Open(d, span, serial, append(marks, make([]api.Mark, segments-len(marks))...))
	if l == nil || e != api.OK {
		t.Fatalf("5.2: Open with the serial %d and %v = %d", serial, marks, e)
	}
	return l
}

// fresh is the log of the chapter's examples.
func fresh(t *testing.T) (*disk.Disk, *segment.Log) {
	t.Helper()
	d := newDisk(t)
	return d, open(t, d, 0)
}

// three is the log of the chapter's third example: segment 0 is full, segment 1 has a frame.
func three(t *testing.T) (*disk.Disk, *segment.Log) {
	t.Helper()
	d, l := fresh(t)
	appends(t, "5.4", l, x, api.Place{Seg: 0, At: 16, Len: 15})
	appends(t, "5.4", l, body(980), api.Place{Seg: 0, At: 31, Len: 993})
	appends(t, "5.4", l, x, api.Place{Seg: 1, At: 16, Len: 15})
	return d, l
}

func answers(t *testing.T, what string, got, want api.Errno) {
	t.Helper()
	if got != want {
		t.Errorf("%s: %d, want %d", what, got, want)
	}
}

func appends(t *testing.T, what string, l *segment.Log, f api.Frame, want api.Place) {
	t.Helper()
	if p, e := l.Append(f); p != want || e != api.OK {
		t.Errorf("%s: Append of kind %d and %d bytes = %v, %d, want %v, 0", what, f.Kind, len(f.Body), p, e, want)
	}
}

// refuses holds an Append against an error, with which there is no place and nothing changes.
func refuses(t *testing.T, what string, l *segment.Log, f api.Frame, want api.Errno) {
	t.Helper()
	before := l.Tail()
	if p, e := l.Append(f); p != (api.Place{}) || e != want {
		t.Errorf("%s: Append of kind %d and %d bytes = %v, %d, want no place, %d", what, f.Kind, len(f.Body), p, e, want)
	}
	tails(t, what+": behind the error", l, before)
}

func reads(t *testing.T, what string, l *segment.Log, p api.Place, want api.Frame) {
	t.Helper()
	if f, e := l.Read(p); e != api.OK || !sameFrame(f, want) {
		t.Errorf("%s: Read(%v) = %v, %d, want %v, 0", what, p, f, e, want)
	}
}

func misses(t *testing.T, what string, l *segment.Log, p api.Place, want api.Errno) {
	t.Helper()
	if f, e := l.Read(p); e != want || f.Kind != 0 || f.Body != nil {
		t.Errorf("%s: Read(%v) = %v, %d, want no frame, %d", what, p, f, e, want)
	}
}

func checks(t *testing.T, what string, l *segment.Log, seg, want int, errno api.Errno) {
	t.Helper()
	if n, e := l.Check(seg); n != want || e != errno {
		t.Errorf("%s: Check(%d) = %d, %d, want %d, %d", what, seg, n, e, want, errno)
	}
}

func sameFrame(a, b api.Frame) bool { return a.Kind == b.Kind && bytes.Equal(a.Body, b.Body) }

// stored is a frame with its place.
type stored struct {
	place api.Place
	frame api.Frame
}

func sameFrames(a, b []stored) bool {
	if len(a) != len(b) {
		return false
	}
	for i := range a {
		if a[i].place != b[i].place || !sameFrame(a[i].frame, b[i].frame) {
			return false
		}
	}
	return true
}

func framesOf(l *segment.Log, seg int) []stored {
	var s []stored
	for p, f := range l.Frames(seg) {
		s = append(s, stored{p, f})
	}
	return s
}

func gives(t *testing.T, what string, l *segment.Log, seg int, want ...stored) {
	t.Helper()
	if got := framesOf(l, seg); !sameFrames(got, want) {
		t.Errorf("%s: Frames(%d) = %v, want %v", what, seg, got, want)
	}
}

func tails(t *testing.T, what string, l *segment.Log, want api.Tail) {
	t.Helper()
	if got := l.Tail(); !reflect.DeepEqual(got, want) {
		t.Errorf("%s: Tail = %v, want %v", what, got, want)
	}
}

// tailOf is a tail in which nothing is held.
func tailOf(serial uint64, current int, marks ...api.Mark) api.Tail {
	return api.Tail{
		Marks:   append(marks, make([]api.Mark, segments-len(marks))...),
		Serial:  serial,
		Current: current,
		Held:    make([]bool, segments),
	}
}

// bytesOf are a segment's bytes as the disk reads them.
func bytesOf(t *testing.T, d *disk.Disk, seg int) []byte {
	t.Helper()
	var b []byte
	for i := range span {
		s, e := d.Read(2 + seg*span + i)
		answers(t, "3.3", e, api.OK)
		b = append(b, s...)
	}
	return b
}

// durableOf are a segment's durable bytes.
func durableOf(d *disk.Disk, seg int) []byte {
	begin := 2*size + seg*whole
	return d.Image()[begin : begin+whole]
}

// turn turns a bit of a segment's byte.
func turn(t *testing.T, d *disk.Disk, seg, at int) {
	t.Helper()
	answers(t, "3.8", d.Rot(2+seg*span+at/size, at%size, 1), api.OK)
}

// off makes the power go.
func off(t *testing.T, d *disk.Disk) {
	t.Helper()
	d.Fuse(0)
	answers(t, "3.5", d.Flush(), api.ErrPower)
}

// noise gives numbers that look like chance and are the same in every run.
type noise struct{ x uint64 }

func (n *noise) below(m int) int {
	n.x = n.x*6364136223846793005 + 1442695040888963407
	return int(n.x >> 16 % uint64(m))
}

// frame is one that is small most of the time, and now and then as long as can be or longer.
func (n *noise) frame() api.Frame {
	most := []int{4, 40, 40, 300, 300, 1000}[n.below(6)]
	f := api.Frame{Kind: byte(1 + n.below(5)), Body: make([]byte, n.below(most))}
	for i := range f.Body {
		f.Body[i] = byte(n.below(256))
	}
	return f
}

func (n *noise) crash(writes int) api.Crash {
	c := api.Crash{Torn: n.below(writes+4) - 2, At: n.below(size+20) - 10}
	for range n.below(writes + 3) {
		c.Keep = append(c.Keep, n.below(2) == 0)
	}
	return c
}

// model is a log as the chapter's words say it, over a disk of its own.
type model struct {
	d       *disk.Disk
	marks   []api.Mark
	serial  uint64
	held    []bool
	reserve int
}

func newModel(d *disk.Disk) *model {
	return &model{d: d, marks: make([]api.Mark, segments), held: make([]bool, segments)}
}

func (m *model) current() int {
	current := -1
	for seg, mark := range m.marks {
		if mark.Serial > 0 && (current < 0 || mark.Serial > m.marks[current].Serial) {
			current = seg
		}
	}
	return current
}

func (m *model) tail() api.Tail {
	return api.Tail{
		Marks:   append([]api.Mark(nil), m.marks...),
		Serial:  m.serial,
		Current: m.current(),
		Held:    append([]bool(nil), m.held...),
	}
}

func (m *model) rewind(t api.Tail) {
	m.marks = append([]api.Mark(nil), t.Marks...)
	m.serial = t.Serial
	m.held = append([]bool(nil), t.Held...)
}

func (m *model) next() api.Errno {
	if m.serial == last {
		return api.ErrLast
	}
	var free []int
	for seg, mark := range m.marks {
		if mark.Serial == 0 && !m.held[seg] {
			free = append(free, seg)
		}
	}
	if len(free) <= m.reserve {
		return api.ErrFull
	}
	if e := m.d.Write(2+free[0]*span, filled(size, headerOf(m.serial+1))); e != api.OK {
		return e
	}
	m.serial++
	m.marks[free[0]] = api.Mark{Serial: m.serial, Used: 16}
	return api.OK
}

func (m *model) fits(n int) bool {
	seg := m.current()
	return seg >= 0 && n >= 0 && n <= whole && m.marks[seg].Used+13+n <= whole
}

func (m *model) append(f api.Frame) (api.Place, api.Errno) {
	before := m.tail()
	if f.Kind < 1 || f.Kind > 5 {
		return api.Place{}, api.ErrKind
	}
	if 13+len(f.Body) > whole-16 {
		return api.Place{}, api.ErrFull
	}
	if !m.fits(len(f.Body)) {
		if e := m.next(); e != api.OK {
			return api.Place{}, e
		}
	}
	seg := m.current()
	at := m.marks[seg].Used
	b := frameOf(m.marks[seg].Serial, at, f)
	for i := at / size; i*size < at+len(b); i++ {
		sector, e := m.d.Read(2 + seg*span + i)
		if e == api.OK {
			for k := range sector {
				if byteAt := i*size + k; byteAt >= at+len(b) {
					sector[k] = 0
				} else if byteAt >= at {
					sector[k] = b[byteAt-at]
				}
			}
			e = m.d.Write(2+seg*span+i, sector)
		}
		if e != api.OK {
			m.rewind(before)
			return api.Place{}, e
		}
	}
	m.marks[seg].Used += len(b)
	return api.Place{Seg: seg, At: at, Len: len(b)}, api.OK
}

func (m *model) free(seg int) api.Errno {
	if seg < 0 || seg >= segments || m.marks[seg].Serial == 0 || seg == m.current() {
		return api.ErrSeg
	}
	m.marks[seg], m.held[seg] = api.Mark{}, true
	return api.OK
}

// bytes are a segment's used bytes.
func (m *model) bytes(seg int) ([]byte, api.Errno) {
	var b []byte
	for i := range span {
		sector, e := m.d.Read(2 + seg*span + i)
		if e != api.OK {
			return nil, e
		}
		b = append(b, sector...)
	}
	return b[:m.marks[seg].Used], api.OK
}

func (m *model) read(p api.Place) (api.Frame, api.Errno) {
	if p.Seg < 0 || p.Seg >= segments || p.At < 16 || p.Len < 13 || p.At > whole || p.Len > whole || p.At+p.Len > m.marks[p.Seg].Used {
		return api.Frame{}, api.ErrPlace
	}
	b, e := m.bytes(p.Seg)
	if e != api.OK {
		return api.Frame{}, e
	}
	f, n, e := codec.ReadFrame(m.marks[p.Seg].Serial, p.At, b[p.At:p.At+p.Len])
	if e == api.OK && n < p.Len {
		return api.Frame{}, api.ErrPlace
	}
	return f, e
}

// frames are the whole frames of a segment, the byte at which they end, and why.
func (m *model) frames(seg int) ([]stored, int, api.Errno) {
	if seg < 0 || seg >= segments {
		return nil, 0, api.ErrSeg
	}
	if m.marks[seg].Serial == 0 {
		return nil, 0, api.OK
	}
	b, e := m.bytes(seg)
	if e != api.OK {
		return nil, 0, e
	}
	var s []stored
	at := 16
	for at < len(b) {
		f, n, e := codec.ReadFrame(m.marks[seg].Serial, at, b[at:])
		if e != api.OK {
			return s, at, e
		}
		s = append(s, stored{api.Place{Seg: seg, At: at, Len: n}, f})
		at += n
	}
	return s, at, api.OK
}

func (m *model) check(seg int) (int, api.Errno) {
	_, at, e := m.frames(seg)
	if e == api.ErrSeg || e == api.ErrPower || m.marks[seg].Serial == 0 {
		return 0, e
	}
	b, _ := m.bytes(seg)
	serial, errno := codec.ReadHeader(b)
	if errno != api.OK {
		return 0, errno
	}
	if serial != m.marks[seg].Serial {
		return 0, api.ErrMarks
	}
	return at, e
}
