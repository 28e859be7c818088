package blobs_test

import (
	"bytes"
	"crypto/sha256"
	"reflect"
	"slices"
	"testing"

	"witness/api"
	"witness/blobs"
	"witness/disk"
	"witness/segment"
)

const (
	size     = 128 // of a sector
	span     = 8
	segments = 7
	whole    = size * span // of a segment
	last     = uint64(1) << 62
)

// sumOf is the digest of a blob, reckoned here a second time, so that the program is not held against itself.
func sumOf(kind byte, body []byte) api.Sum {
	return sha256.Sum256(append([]byte{kind}, body...))
}

// one is a digest that all blobs share; few has three sums for all of them; both are as bad as a digest can be.
func one(byte, []byte) api.Sum { return api.Sum{} }

func few(_ byte, body []byte) api.Sum { return api.Sum{31: byte(len(body) % 3)} }

func addr(kind byte, body string) api.Addr { return api.Addr{Sum: sumOf(kind, []byte(body))} }

func nth(n int) api.Addr { return api.Addr{Nth: uint8(n)} }

func at(seg, at, length int) api.Place { return api.Place{Seg: seg, At: at, Len: length} }

// blob is the frame of a blob.
func blob(kind, nth byte, body string) api.Frame {
	return api.Frame{Kind: kind, Body: append([]byte{nth}, body...)}
}

func newDisk(t *testing.T) *disk.Disk {
	t.Helper()
	d, e := disk.New(64, size)
	answers(t, "3.1: New", e, api.OK)
	return d
}

// logOf is a log over a disk, with these marks and free segments behind them.
func logOf(t *testing.T, d *disk.Disk, serial uint64, marks ...api.Mark) *segment.Log {
	t.Helper()
	l, e := segment.Open(d, span, serial, append(slices.Clone(marks), make([]api.Mark, segments-len(marks))...))
	if l == nil || e != api.OK {
		t.Fatalf("5.2: Open with the serial %d and %v = %d", serial, marks, e)
	}
	return l
}

func open(t *testing.T, l *segment.Log) *blobs.Blobs {
	t.Helper()
	b, e := blobs.Open(l)
	if b == nil || e != api.OK {
		t.Fatalf("6.2: Open = %v, %d", b, e)
	}
	return b
}

func openWith(t *testing.T, l *segment.Log, sum func(kind byte, body []byte) api.Sum) *blobs.Blobs {
	t.Helper()
	b, e := blobs.OpenWith(l, sum)
	if b == nil || e != api.OK {
		t.Fatalf("6.2: Open = %v, %d", b, e)
	}
	return b
}

// anew is a log over the same disk, as one that is opened behind a crash is.
func anew(t *testing.T, l *segment.Log) *segment.Log {
	t.Helper()
	tail := l.Tail()
	return logOf(t, l.Disk(), tail.Serial, tail.Marks...)
}

// fresh is the log and the blobs of the chapter's examples.
func fresh(t *testing.T) (*disk.Disk, *segment.Log, *blobs.Blobs) {
	t.Helper()
	d := newDisk(t)
	l := logOf(t, d, 0)
	return d, l, open(t, l)
}

func freshWith(t *testing.T, sum func(kind byte, body []byte) api.Sum) (*disk.Disk, *segment.Log, *blobs.Blobs) {
	t.Helper()
	d := newDisk(t)
	l := logOf(t, d, 0)
	return d, l, openWith(t, l, sum)
}

func answers(t *testing.T, what string, got, want api.Errno) {
	t.Helper()
	if got != want {
		t.Errorf("%s: %d, want %d", what, got, want)
	}
}

func puts(t *testing.T, what string, b *blobs.Blobs, kind byte, body string, want api.Addr) {
	t.Helper()
	if a, e := b.Put(kind, []byte(body)); a != want || e != api.OK {
		t.Errorf("%s: Put(%d, %.20q) = %v, %d, want %v, 0", what, kind, body, a, e, want)
	}
}

// put is the address of a blob, whichever it is.
func put(t *testing.T, b *blobs.Blobs, kind byte, body string) api.Addr {
	t.Helper()
	a, e := b.Put(kind, []byte(body))
	answers(t, "6.3: Put", e, api.OK)
	return a
}

// refuses holds a Put against an error, with which there is no address and nothing changes.
func refuses(t *testing.T, what string, b *blobs.Blobs, kind byte, body string, want api.Errno) {
	t.Helper()
	unchanged(t, what, b, func() {
		if a, e := b.Put(kind, []byte(body)); a != (api.Addr{}) || e != want {
			t.Errorf("%s: Put(%d, %.20q) = %v, %d, want no address, %d", what, kind, body, a, e, want)
		}
	})
}

func gets(t *testing.T, what string, b *blobs.Blobs, kind byte, a api.Addr, want string) {
	t.Helper()
	if body, e := b.Get(kind, a); string(body) != want || e != api.OK {
		t.Errorf("%s: Get(%d, %v) = %.20q, %d, want %.20q, 0", what, kind, a, body, e, want)
	}
}

func misses(t *testing.T, what string, b *blobs.Blobs, kind byte, a api.Addr, want api.Errno) {
	t.Helper()
	if body, e := b.Get(kind, a); body != nil || e != want {
		t.Errorf("%s: Get(%d, %v) = %.20q, %d, want nothing, %d", what, kind, a, body, e, want)
	}
}

func finds(t *testing.T, what string, b *blobs.Blobs, kind byte, body string, want api.Addr) {
	t.Helper()
	if a, ok := b.Find(kind, []byte(body)); a != want || !ok {
		t.Errorf("%s: Find(%d, %.20q) = %v, %v, want %v, true", what, kind, body, a, ok, want)
	}
}

func lacks(t *testing.T, what string, b *blobs.Blobs, kind byte, body string) {
	t.Helper()
	if a, ok := b.Find(kind, []byte(body)); a != (api.Addr{}) || ok {
		t.Errorf("%s: Find(%d, %.20q) = %v, %v, want nothing, false", what, kind, body, a, ok)
	}
}

func lies(t *testing.T, what string, b *blobs.Blobs, a api.Addr, want api.Place) {
	t.Helper()
	if p, ok := b.Where(a); p != want || !ok {
		t.Errorf("%s: Where(%v) = %v, %v, want %v, true", what, a, p, ok, want)
	}
}

func absent(t *testing.T, what string, b *blobs.Blobs, a api.Addr) {
	t.Helper()
	if p, ok := b.Where(a); p != (api.Place{}) || ok {
		t.Errorf("%s: Where(%v) = %v, %v, want nothing, false", what, a, p, ok)
	}
	misses(t, what, b, 1, a, api.ErrNone)
}

// item is an address with its place.
type item struct {
	addr  api.Addr
	place api.Place
}

func each(b *blobs.Blobs) []item {
	var l []item
	for a, p := range b.Each() {
		l = append(l, item{a, p})
	}
	return l
}

// inOrder is a list in the order of addresses.
func inOrder(l []item) []item {
	l = slices.Clone(l)
	slices.SortFunc(l, func(a, b item) int {
		return bytes.Compare(append(a.addr.Sum[:], a.addr.Nth), append(b.addr.Sum[:], b.addr.Nth))
	})
	return l
}

// has holds what is there against a list, in whatever order that is.
func has(t *testing.T, what string, b *blobs.Blobs, want ...item) {
	t.Helper()
	if got := each(b); !slices.Equal(got, inOrder(want)) {
		t.Errorf("%s: Each = %v, want %v", what, got, inOrder(want))
	}
	if b.Len() != len(want) {
		t.Errorf("%s: Len = %d, want %d", what, b.Len(), len(want))
	}
	for _, i := range want {
		lies(t, what, b, i.addr, i.place)
	}
}

// begun tells whether a change has begun, which Begin alone can tell without an end of it.
func begun(b *blobs.Blobs) bool {
	if b.Begin() == api.ErrOpen {
		return true
	}
	b.End()
	return false
}

// view is all that is told without the disk.
type view struct {
	items  []item
	tail   api.Tail
	begun  bool
	writes uint64
}

func viewOf(b *blobs.Blobs) view {
	return view{each(b), b.Log().Tail(), begun(b), b.Log().Disk().Stats().Writes}
}

// unchanged holds all of it against what it was ahead of a call.
func unchanged(t *testing.T, what string, b *blobs.Blobs, call func()) {
	t.Helper()
	before := viewOf(b)
	call()
	if now := viewOf(b); !reflect.DeepEqual(now, before) {
		t.Errorf("%s: now there is %v, and there was %v", what, now, before)
	}
}

// turn turns a bit of a segment's byte.
func turn(t *testing.T, d *disk.Disk, seg, at int) {
	t.Helper()
	answers(t, "3.8", d.Rot(2+seg*span+at/size, at%size, 1), api.OK)
}

// off makes the power go.
func off(t *testing.T, d *disk.Disk) {
	t.Helper()
	d.Fuse(0)
	answers(t, "3.5", d.Flush(), api.ErrPower)
}

// on gives the power back, with all that was written.
func on(d *disk.Disk) {
	d.Crash(api.Crash{Keep: slices.Repeat([]bool{true}, len(d.Pending())), Torn: -1})
}

// noise gives numbers that look like chance and are the same in every run.
type noise struct{ x uint64 }

func (n *noise) below(m int) int {
	n.x = n.x*6364136223846793005 + 1442695040888963407
	return int(n.x >> 16 % uint64(m))
}

// body is one of a few, most of them short, so that many come again.
func (n *noise) body() []byte {
	length := []int{0, 1, 1, 2, 3, 60, 60, 200, 500, 994, 995}[n.below(11)]
	return bytes.Repeat([]byte{byte('a' + n.below(3))}, length)
}

func (n *noise) crash(writes int) api.Crash {
	c := api.Crash{Torn: n.below(writes+4) - 2, At: n.below(size+20) - 10}
	for range n.below(writes + 3) {
		c.Keep = append(c.Keep, n.below(2) == 0)
	}
	return c
}

// model is blobs as the chapter's words say them, over a log of its own: a plain list, and a change is a copy of it.
type model struct {
	l     *segment.Log
	sum   func(kind byte, body []byte) api.Sum
	items []item
	ever  []api.Addr // all that were ever there

	begun bool
	tail  api.Tail
	then  []item
}

func (m *model) find(a api.Addr) int {
	return slices.IndexFunc(m.items, func(i item) bool { return i.addr == a })
}

func (m *model) set(a api.Addr, p api.Place) {
	m.ever = append(m.ever, a)
	if i := m.find(a); i >= 0 {
		m.items[i].place = p
		return
	}
	m.items = append(m.items, item{a, p})
}

func (m *model) remove(gone func(i item) bool) int {
	n := len(m.items)
	m.items = slices.DeleteFunc(slices.Clone(m.items), gone)
	return n - len(m.items)
}

func (m *model) read(i item) (byte, []byte, api.Errno) {
	f, e := m.l.Read(i.place)
	if e != api.OK {
		return 0, nil, e
	}
	if len(f.Body) == 0 || f.Body[0] != i.addr.Nth || m.sum(f.Kind, f.Body[1:]) != i.addr.Sum {
		return 0, nil, api.ErrCheck
	}
	return f.Kind, f.Body[1:], api.OK
}

// look is Put without its writing: the address, and whether it is there.
func (m *model) look(kind byte, body []byte) (api.Addr, bool, api.Errno) {
	if kind < 1 || kind > 4 {
		return api.Addr{}, false, api.ErrKind
	}
	var free []api.Addr
	for n := range 256 {
		a := api.Addr{Sum: m.sum(kind, body), Nth: uint8(n)}
		i := m.find(a)
		if i < 0 {
			free = append(free, a)
			continue
		}
		k, text, e := m.read(m.items[i])
		if e != api.OK {
			return api.Addr{}, false, e
		}
		if k == kind && bytes.Equal(text, body) {
			return a, true, api.OK
		}
	}
	if len(free) == 0 {
		return api.Addr{}, false, api.ErrTwins
	}
	return free[0], false, api.OK
}

func (m *model) put(kind byte, body []byte) (api.Addr, api.Errno) {
	a, there, e := m.look(kind, body)
	if e != api.OK || there {
		return a, e
	}
	p, e := m.l.Append(blob(kind, a.Nth, string(body)))
	if e != api.OK {
		return api.Addr{}, e
	}
	m.set(a, p)
	return a, api.OK
}

func (m *model) get(kind byte, a api.Addr) ([]byte, api.Errno) {
	i := m.find(a)
	if i < 0 {
		return nil, api.ErrNone
	}
	k, body, e := m.read(m.items[i])
	if e != api.OK {
		return nil, e
	}
	if k != kind {
		return nil, api.ErrKind
	}
	return body, api.OK
}

func (m *model) move(a api.Addr) api.Errno {
	i := m.find(a)
	if i < 0 {
		return api.ErrNone
	}
	kind, body, e := m.read(m.items[i])
	if e != api.OK {
		return e
	}
	p, e := m.l.Append(blob(kind, a.Nth, string(body)))
	if e == api.OK {
		m.set(a, p)
	}
	return e
}

func (m *model) drop(seg int) (int, api.Errno) {
	if e := m.l.Free(seg); e != api.OK {
		return 0, e
	}
	return m.remove(func(i item) bool { return i.place.Seg == seg }), api.OK
}

func (m *model) keep(l []api.Addr) int {
	return m.remove(func(i item) bool { return !slices.Contains(l, i.addr) })
}

func (m *model) begin() api.Errno {
	if m.begun {
		return api.ErrOpen
	}
	m.begun, m.tail, m.then = true, m.l.Tail(), slices.Clone(m.items)
	return api.OK
}

func (m *model) end() api.Errno {
	if !m.begun {
		return api.ErrOpen
	}
	m.begun = false
	return api.OK
}

func (m *model) undo() api.Errno {
	if !m.begun {
		return api.ErrOpen
	}
	m.begun, m.items = false, m.then
	return m.l.Rewind(m.tail)
}

func second[T any](_ T, e api.Errno) api.Errno { return e }

// fixture is blobs with two of them in segment 0 and one in segment 1, which is the current one.
type fixture struct{ b *blobs.Blobs }

func newFixture(t *testing.T) *fixture {
	t.Helper()
	_, l, b := fresh(t)
	puts(t, "6.3", b, 1, "x", addr(1, "x"))
	puts(t, "6.3", b, 2, "y", addr(2, "y"))
	answers(t, "5.3", l.Next(), api.OK)
	puts(t, "6.3", b, 3, "z", addr(3, "z"))
	return &fixture{b}
}

// told is what the calls that write nothing answer, of all that a test puts.
type told struct {
	view   view
	bodies []string
	errnos []api.Errno
	found  []item
}

func (f *fixture) all() told {
	v := told{view: viewOf(f.b)}
	f.asks(&v)
	return v
}

// asks calls Get, Find and Where alone, which may come from several at one time.
func (f *fixture) asks(v *told) {
	for _, i := range v.view.items {
		for kind := range byte(6) {
			body, e := f.b.Get(kind, i.addr)
			v.bodies, v.errnos = append(v.bodies, string(body)), append(v.errnos, e)
		}
	}
	for kind := range byte(6) {
		for _, body := range []string{"", "x", "y", "z", "new", "newer"} {
			a, _ := f.b.Find(kind, []byte(body))
			p, _ := f.b.Where(a)
			v.found = append(v.found, item{a, p})
		}
	}
}

// same tells whether both tell one thing; how much was written is another matter.
func (v told) same(w told) bool {
	v.view.writes, w.view.writes = 0, 0
	return reflect.DeepEqual(v, w)
}
