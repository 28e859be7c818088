package catalog_test

import (
	"bytes"
	"encoding/binary"
	"fmt"
	"hash/crc32"
	"maps"
	"math/rand/v2"
	"reflect"
	"slices"
	"strings"
	"testing"

	"witness/api"
	"witness/blobs"
	"witness/catalog"
	"witness/codec"
	"witness/disk"
	"witness/skip"
)

const (
	size     = 128 // of a sector
	span     = 8
	segments = 8
	sectors  = 2 + segments*span
	whole    = size * span     // of a segment
	last     = uint64(1) << 62 // of a version, a Seq, a serial
)

func cat(parts ...[]byte) []byte { return bytes.Join(parts, nil) }

func noise(seed uint64) *rand.Rand { return rand.New(rand.NewPCG(seed, 14)) }

func newDisk(t *testing.T, sectors, size int) *disk.Disk {
	t.Helper()
	d, e := disk.New(sectors, size)
	answers(t, "3.1: New", e, api.OK)
	return d
}

func answers(t *testing.T, what string, got, want api.Errno) {
	t.Helper()
	if got != want {
		t.Errorf("%s: %d, want %d", what, got, want)
	}
}

func must(t *testing.T, what string, got api.Errno) {
	t.Helper()
	if got != api.OK {
		t.Fatalf("%s: %d", what, got)
	}
}

// formatted is a disk of the chapter's examples behind Format.
func formatted(t *testing.T, window int) *disk.Disk {
	t.Helper()
	d := newDisk(t, sectors, size)
	must(t, "14.1: Format", catalog.Format(d, span, window))
	return d
}

// wide is a formatted disk on which much has room.
func wide(t *testing.T, window int) *disk.Disk {
	t.Helper()
	d := newDisk(t, 2+8*64, 512)
	must(t, "14.1: Format", catalog.Format(d, 64, window))
	return d
}

func open(t *testing.T, d *disk.Disk) *catalog.Catalog {
	t.Helper()
	c, e := catalog.Open(d)
	if c == nil || e != api.OK {
		t.Fatalf("14.2: Open = %v, %d", c != nil, e)
	}
	return c
}

// noOpen holds Open against an error.
func noOpen(t *testing.T, what string, d *disk.Disk, want api.Errno) {
	t.Helper()
	if c, e := catalog.Open(d); c != nil || e != want {
		t.Errorf("%s: Open = %v, %d, want no catalog, %d", what, c != nil, e, want)
	}
}

// put is the newest tree with a key more, as a change that has begun.
func put(t *testing.T, c *catalog.Catalog, key, value string) api.Tree {
	t.Helper()
	must(t, "6.8: Begin", c.Blobs().Begin())
	tree, e := skip.Put(c.Blobs(), c.Latest().Tree, []byte(key), []byte(value))
	must(t, "8.5: Put", e)
	return tree
}

// add commits the newest tree with a key more.
func add(t *testing.T, c *catalog.Catalog, key, value string) api.Version {
	t.Helper()
	tree := put(t, c, key, value)
	want := api.Version{Number: c.Latest().Number + 1, Tree: tree}
	v, e := c.Add(tree)
	if v != want || e != api.OK {
		t.Fatalf("14.8: Add = %v, %d, want %v, 0", v, e, want)
	}
	return v
}

// grown is a store with some versions, of which the last ones are kept.
func grown(t *testing.T, d *disk.Disk, versions int) *catalog.Catalog {
	t.Helper()
	c := open(t, d)
	for i := range versions {
		add(t, c, string(rune('a'+i)), fmt.Sprint("value ", i))
	}
	return c
}

// item is a blob that is there.
type item struct {
	addr  api.Addr
	place api.Place
}

func each(b *blobs.Blobs) []item {
	var l []item
	for a, p := range b.Each() {
		l = append(l, item{a, p})
	}
	return l
}

func addrs(l []item) []api.Addr {
	var as []api.Addr
	for _, i := range l {
		as = append(as, i.addr)
	}
	return as
}

// view is all that the calls of a catalog tell, and what its blobs hold.
type view struct {
	Super    api.Super
	Page     api.Page
	Latest   api.Version
	Versions map[uint64]api.Version
	Live     []api.Addr
	LiveErr  api.Errno
	Blobs    []item
	Frames   []string
	Tail     api.Tail
}

// viewOf asks a catalog for all that it tells.
func viewOf(c *catalog.Catalog) view {
	v := view{Super: c.Super(), Page: c.Page(), Latest: c.Latest(), Versions: map[uint64]api.Version{}}
	from := v.Page.Last - min(v.Page.Last, api.MaxWindow+2)
	for n := from; n <= v.Page.Last+2; n++ {
		if x, e := c.Version(n); e == api.OK {
			v.Versions[n] = x
		} else if e != api.ErrVersion || x != (api.Version{}) {
			panic("14.3: Version answers another error, or a version with it")
		}
	}
	v.Live, v.LiveErr = c.Live()
	v.Blobs = each(c.Blobs())
	for _, i := range v.Blobs {
		f, e := c.Blobs().Log().Read(i.place)
		v.Frames = append(v.Frames, fmt.Sprint(f.Kind, e, " ", string(f.Body)))
	}
	v.Tail = c.Blobs().Log().Tail()
	return v
}

func same(a, b view) bool { return reflect.DeepEqual(a, b) }

// short is a view in few words.
func (v view) short() string {
	var l []string
	for _, n := range slices.Sorted(maps.Keys(v.Versions)) {
		l = append(l, fmt.Sprint(n))
	}
	return fmt.Sprintf("Seq %d, versions %s, window %d, %d live (%d), %d blobs, page at %v, marks %v", v.Super.Seq, strings.Join(l, " "), v.Page.Window, len(v.Live), v.LiveErr, len(v.Blobs), v.Super.Page, v.Page.Marks)
}

func holds(t *testing.T, what string, got, want view) {
	t.Helper()
	if !same(got, want) {
		t.Errorf("%s: %s\nwant %s", what, got.short(), want.short())
	}
}

// whatDiskHas is all that is on a disk, in its cache, and how often it was written.
func whatDiskHas(d *disk.Disk) string {
	s := d.Stats()
	return fmt.Sprint(s.Writes, s.Flushes, d.Pending(), d.Era(), d.Off(), " ") + string(d.Image())
}

// unwritten holds that something writes nothing.
func unwritten(t *testing.T, what string, d *disk.Disk, do func()) {
	t.Helper()
	before := whatDiskHas(d)
	do()
	if whatDiskHas(d) != before {
		t.Errorf("%s: the disk was written", what)
	}
}

// event of a disk: a sector that is written, or a flush.
const flush = -1

// eventsOf are the writes and flushes of a call, found by letting the power go ahead of each of them in turn.
func eventsOf(t *testing.T, d *disk.Disk, call func(d *disk.Disk) api.Errno) []int {
	t.Helper()
	var l []int
	for n := 0; ; n++ {
		x := d.Copy()
		before, pending := x.Stats(), len(x.Pending())
		x.Fuse(n)
		e := call(x)
		after := x.Stats()
		if n > 0 {
			if f := int(after.Flushes - before.Flushes); f > slicesCount(l, flush) {
				l = append(l, flush)
			} else {
				p := x.Pending()
				l = append(l, p[len(p)-1])
			}
		}
		if after.Writes-before.Writes+after.Flushes-before.Flushes != uint64(len(l)) || pending != 0 {
			t.Fatalf("with the fuse %d: %v behind %v, events %v", n, after, before, l)
		}
		if e == api.OK {
			return l
		}
		if e != api.ErrPower || !x.Off() {
			t.Fatalf("with the fuse %d: %d", n, e)
		}
	}
}

func slicesCount(l []int, x int) int {
	n := 0
	for _, y := range l {
		if x == y {
			n++
		}
	}
	return n
}

// What follows is the document's tables a second time, so that the program is not held against itself.

func word(n int) []byte { return binary.BigEndian.AppendUint32(nil, uint32(n)) }

func long(n uint64) []byte { return binary.BigEndian.AppendUint64(nil, n) }

func number(n uint64) []byte { return binary.AppendUvarint(nil, n) }

func check(parts ...[]byte) []byte {
	return binary.BigEndian.AppendUint32(nil, crc32.Checksum(cat(parts...), crc32.MakeTable(crc32.Castagnoli)))
}

func padded(b []byte, size int) []byte { return append(slices.Clone(b), make([]byte, size-len(b))...) }

func superBytes(s api.Super, size int) []byte {
	b := cat([]byte("witness1"), long(s.Seq), word(s.Size), word(s.Sectors), word(s.Span), word(s.Page.Seg), word(s.Page.At), word(s.Page.Len))
	return padded(cat(b, check(b), long(s.Seq)), size)
}

func headerBytes(serial uint64) []byte {
	b := cat([]byte("wseg"), long(serial))
	return cat(b, check(b))
}

func frameBytes(serial uint64, at int, kind byte, body []byte) []byte {
	place := cat(long(serial), word(at), word(len(body)), []byte{kind})
	return cat(word(len(body)), []byte{kind}, check(place), body, check(place, body))
}

func addrBytes(a api.Addr) []byte { return append(a.Sum[:], a.Nth) }

func pageBytes(p api.Page) []byte {
	b := cat(number(p.Last), number(uint64(p.Window)), number(p.Serial), number(uint64(len(p.Marks))))
	for _, m := range p.Marks {
		b = cat(b, number(m.Serial), number(uint64(m.Used)))
	}
	b = cat(b, number(uint64(len(p.Versions))))
	for _, v := range p.Versions {
		b = cat(b, number(v.Number), addrBytes(v.Tree.Addr), number(v.Tree.Count), v.Tree.Label[:])
	}
	b = cat(b, number(p.Annal.Size), number(uint64(len(p.Annal.Peaks))))
	for _, k := range p.Annal.Peaks {
		b = cat(b, number(k.Size), addrBytes(k.Limb.Addr), k.Limb.Label[:])
	}
	return b
}

func readSuper(b []byte) (api.Super, api.Errno) { return codec.ReadSuper(b) }
