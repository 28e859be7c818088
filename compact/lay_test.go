package compact_test

import (
	"bytes"
	"cmp"
	"encoding/binary"
	"fmt"
	"slices"
	"testing"

	"witness/api"
	"witness/catalog"
	"witness/codec"
	"witness/disk"
)

// layout is a store whose segments are laid by hand, so that each byte of them is known. Ahead of all others come the segments of which frames are told; then those that have the towers and the annals, and are live but for their headers; then the current one, which has a frame that nobody needs and the page; then the free ones.
type layout struct {
	whole    int     // bytes of a segment
	segs     [][]int // their frames, by their bytes: those of values that a version needs, and below 0 those that nobody needs
	versions int     // how many are kept; all have one tree
	spare    int     // bytes that are left in the current segment
	free     int     // segments that are left free
	seq      uint64  // of the superblock; 0: 4
	serial   uint64  // that was given out last; 0: that of the current segment
}

// body is the body of a value whose frame has so many bytes; no two numbers have one body.
func body(number, length int) []byte {
	b := bytes.Repeat([]byte{byte(number)}, length-around)
	binary.BigEndian.PutUint16(b, uint16(number))
	return b
}

// scratch is a store with much room that has the same versions; and its values, in the order of the layout's frames.
func (l layout) scratch(t *testing.T) *catalog.Catalog {
	t.Helper()
	_, c := store(t, 60, 1<<15, l.versions)
	var edits []api.Edit
	for i, n := range slices.Concat(l.segs...) {
		if n > 0 {
			edits = append(edits, api.Edit{Key: []byte(fmt.Sprint("key ", i)), Value: body(i, n)})
		}
	}
	must(t, "14.8: Add", apply(c, edits...))
	for range l.versions - 1 {
		_, e := c.Add(c.Latest().Tree)
		must(t, "14.8: Add", e)
	}
	return c
}

// pile is segments that are being filled.
type pile struct {
	whole int
	segs  [][]byte
}

func (p *pile) next() { p.segs = append(p.segs, codec.Header(uint64(len(p.segs)+1))) }

func (p *pile) append(f api.Frame) {
	if len(p.segs[len(p.segs)-1])+13+len(f.Body) > p.whole {
		p.next()
	}
	last := &p.segs[len(p.segs)-1]
	*last = append(*last, codec.Frame(uint64(len(p.segs)), len(*last), f)...)
}

func value(body []byte) api.Frame {
	return api.Frame{Kind: api.KindValue, Body: append([]byte{0}, body...)}
}

// filled are the segments ahead of the current one.
func (l layout) filled(t *testing.T, c *catalog.Catalog) *pile {
	t.Helper()
	p := &pile{whole: l.whole}
	number := 0
	for i, seg := range l.segs {
		p.next()
		for _, n := range seg {
			p.append(value(body(number, max(n, -n))))
			number++
		}
		if len(p.segs) != i+1 {
			t.Fatalf("the frames %v do not fit into a segment", seg)
		}
	}
	p.next()
	live, e := c.Live()
	must(t, "14.4: Live", e)
	for _, a := range live {
		place, _ := c.Blobs().Where(a)
		f, e := c.Blobs().Log().Read(place)
		must(t, "5.6: Read", e)
		if f.Kind != api.KindValue {
			p.append(f)
		}
	}
	return p
}

// disk is a disk with the store.
func (l layout) disk(t *testing.T) *disk.Disk {
	t.Helper()
	c := l.scratch(t)
	p := l.filled(t, c)
	p.next()
	page := c.Page()
	page.Serial = max(l.serial, uint64(len(p.segs)))
	page.Marks = make([]api.Mark, len(p.segs)+l.free)
	for seg, b := range p.segs {
		page.Marks[seg] = api.Mark{Serial: uint64(seg + 1), Used: len(b)}
	}
	current := len(p.segs) - 1
	page.Marks[current].Used = l.whole / 2 // told by as many bytes as in the end
	filler := l.whole - l.spare - header - 13 - len(codec.Page(page))
	if filler < 130 {
		t.Fatalf("the current segment has %d bytes beside the page", filler)
	}
	p.append(value(body(1<<15, filler)))
	page.Marks[current].Used = header + filler
	super := api.Super{Seq: cmp.Or(l.seq, 4), Size: sector, Sectors: 2 + len(page.Marks)*l.whole/sector, Span: l.whole / sector}
	super.Page = api.Place{Seg: current, At: header + filler, Len: 13 + len(codec.Page(page))}
	p.append(api.Frame{Kind: api.KindPage, Body: codec.Page(page)})
	if len(p.segs) != current+1 || len(p.segs[current]) != l.whole-l.spare {
		t.Fatalf("the current segment is %d with %d bytes", len(p.segs)-1, len(p.segs[len(p.segs)-1]))
	}
	image := make([]byte, super.Sectors*sector)
	copy(image[super.Seq%2*sector:], codec.Super(super, sector))
	for seg, b := range p.segs {
		copy(image[2*sector+seg*l.whole:], b)
	}
	d, e := disk.Load(image, sector)
	must(t, "3.1: Load", e)
	return d
}

func (l layout) open(t *testing.T) (*disk.Disk, *catalog.Catalog) {
	t.Helper()
	d := l.disk(t)
	return d, open(t, d)
}

// halves are so many segments with a live frame of so many bytes each, and as many dead ones and some more: the first with the most of them.
func halves(n, live int) [][]int {
	var l [][]int
	for i := range n {
		l = append(l, []int{live, -live - 20 + i})
	}
	return l
}

// TestLayout: what is laid by hand is a store as any other one.
func TestLayout(t *testing.T) {
	for _, l := range []layout{
		{whole: 1024, segs: halves(3, 300), versions: 1, free: 1},
		{whole: 2048, segs: [][]int{{20, 30}, {-20}, {}}, versions: 3, free: 2, spare: 100},
		{whole: 2048, segs: nil, versions: 14, free: 3, spare: 1},
	} {
		d, c := l.open(t)
		want := l.scratch(t)
		f, g := factsOf(t, c), factsOf(t, want)
		holds(t, "the layout's facts", f, g)
		tail := c.Blobs().Log().Tail()
		if m := tail.Marks[tail.Current]; free(c) != l.free || l.whole-m.Used != l.spare || len(d.Pending()) != 0 {
			t.Errorf("the layout leaves %d free, %d bytes", free(c), l.whole-m.Used)
		}
		for seg, m := range tail.Marks {
			if n, e := c.Blobs().Log().Check(seg); n != m.Used || e != api.OK {
				t.Errorf("5.7: Check(%d) = %d, %d, want %d", seg, n, e, m.Used)
			}
		}
	}
}
