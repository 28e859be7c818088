package catalog_test

import (
	"bytes"
	"crypto/sha256"
	"fmt"
	"math"
	"slices"
	"testing"

	"witness/api"
	"witness/catalog"
	"witness/disk"
)

func TestFormatRefuses(t *testing.T) {
	small := newDisk(t, 2+2*2-1, size) // one segment of 2 sectors
	store := grown(t, formatted(t, 3), 2)
	for _, d := range []*disk.Disk{newDisk(t, sectors, size), small, newDisk(t, 1, size), nil, {}, storeDisk(t, 2)} {
		for _, off := range []bool{false, true} {
			if off && d == nil {
				continue
			}
			x := d
			if d != nil {
				x = d.Copy()
			}
			if off {
				x.Fuse(0)
				x.Flush()
			}
			has := 0
			if x != nil {
				has = x.Sectors()
			}
			for _, span := range []int{math.MinInt, -8, -1, 0, 1, 2, 3, 8, 32, 33, 1024, 1025, 1026, math.MaxInt} {
				for _, window := range []int{math.MinInt, -1, 0, 1, 64, 65, math.MaxInt} {
					want := api.OK
					switch {
					case span < 2 || span > 1024:
						want = api.ErrSpan
					case has < 2 || (has-2)/span < 2:
						want = api.ErrSize
					case window < 1 || window > 64:
						want = api.ErrWindow
					case off:
						want = api.ErrPower
					}
					what := fmt.Sprintf("14.1: Format(a disk of %d sectors, %d, %d), off: %v", has, span, window, off)
					if want == api.OK {
						continue // TestFormatTakes
					}
					if x == nil {
						answers(t, what, catalog.Format(x, span, window), want)
						continue
					}
					unwritten(t, what, x, func() { answers(t, what, catalog.Format(x, span, window), want) })
				}
			}
		}
	}
	if store.Dead() {
		t.Error("0.3: a catalog of another disk is dead")
	}
}

// storeDisk is a disk with a store of some versions.
func storeDisk(t *testing.T, versions int) *disk.Disk {
	t.Helper()
	d := formatted(t, 3)
	grown(t, d, versions)
	return d
}

func TestFormatTakes(t *testing.T) {
	for _, row := range []struct{ sectors, size, span, window int }{
		{2 + 2*2, 128, 2, 1}, {2 + 2*2 + 1, 128, 2, 64}, {2 + 3*2, 128, 2, 2}, {66, 128, 8, 3}, {66, 128, 32, 1},
		{2 + 2*1024, 128, 1024, 64}, {2 + 2*1024 + 1023, 256, 1024, 5}, {6, 4096, 2, 7}, {4096, 4096, 64, 1}, {65536, 256, 1024, 33},
	} {
		d := newDisk(t, row.sectors, row.size)
		what := fmt.Sprintf("14.1: %v", row)
		answers(t, what, catalog.Format(d, row.span, row.window), api.OK)
		if len(d.Pending()) != 0 {
			t.Errorf("%s: writes are pending", what)
		}
		if !bytes.Equal(d.Image(), emptyStore(row.sectors, row.size, row.span, row.window, 1)) {
			t.Errorf("%s: other bytes", what)
		}
		c := open(t, d)
		want := api.Super{Seq: 1, Size: row.size, Sectors: row.sectors, Span: row.span, Page: c.Super().Page}
		if c.Super() != want || c.Page().Window != row.window || c.Latest().Number != 0 || c.Dead() {
			t.Errorf("%s: %v, window %d", what, c.Super(), c.Page().Window)
		}
	}
}

// emptyStore is the bytes of a disk of zeros behind Format, laid by hand.
func emptyStore(sectors, size, span, window int, seq uint64) []byte {
	count := (sectors - 2) / span
	head := []byte{1, 0}
	headAddr := sha256.Sum256(cat([]byte{2}, head))
	below := sha256.Sum256([]byte{0x12})
	label := api.Sum(sha256.Sum256(cat([]byte{0x14}, long(0), below[:])))
	leaf := cat(number(0), label[:])
	leafAddr := sha256.Sum256(cat([]byte{3}, leaf))
	segs := [][]byte{cat(headerBytes(1), frameBytes(1, 16, 2, cat([]byte{0}, head)), nil)}
	segs[0] = cat(segs[0], frameBytes(1, len(segs[0]), 3, cat([]byte{0}, leaf)))
	p := api.Page{Window: window, Serial: 1, Marks: make([]api.Mark, count),
		Versions: []api.Version{{Tree: api.Tree{Addr: api.Addr{Sum: headAddr}, Label: label}}},
		Annal:    api.Annal{Size: 1, Peaks: []api.Peak{{Size: 1, Limb: api.Limb{Addr: api.Addr{Sum: leafAddr}, Label: leafSum(api.Leaf{Label: label})}}}}}
	p.Marks[0] = api.Mark{Serial: 1, Used: len(segs[0])}
	seg := 0
	if len(segs[0])+13+len(pageBytes(p)) > span*size {
		segs = append(segs, headerBytes(2))
		seg, p.Serial, p.Marks[1] = 1, 2, api.Mark{Serial: 2, Used: 16}
	}
	frame := frameBytes(p.Serial, len(segs[seg]), 5, pageBytes(p))
	s := api.Super{Seq: seq, Size: size, Sectors: sectors, Span: span, Page: api.Place{Seg: seg, At: len(segs[seg]), Len: len(frame)}}
	segs[seg] = append(segs[seg], frame...)
	image := make([]byte, sectors*size)
	copy(image[int(seq%2)*size:], superBytes(s, size))
	for i, b := range segs {
		copy(image[(2+i*span)*size:], b)
	}
	return image
}

// pageLen is how many bytes the frame of Format's page has, where so many segments are there.
func pageLen(count int) int {
	b := emptyStore(2+count*1024, 128, 1024, 1, 1)
	d, _ := disk.Load(b, 128)
	s, _ := modelSuper(d)
	return s.Page.Len
}

// TestFormatSmallSegments: segments in which the page has just room behind the blobs, just room alone, and none.
func TestFormatSmallSegments(t *testing.T) {
	const segment = 2 * 128
	met := map[string]int{}
	for count := 2; count < 60; count++ {
		for _, store := range []bool{false, true} {
			n := 2 + count*2 + count%2
			d := newDisk(t, n, 128)
			seq := uint64(1)
			if store {
				must(t, "14.1: Format", catalog.Format(d, (n-2)/2, 3))
				seq = 2
			}
			frame := pageLen(count)
			what := fmt.Sprintf("14.1: %d segments of 256 bytes", count)
			switch {
			case 16+16+47+frame <= segment:
				met["behind the blobs"]++
			case 16+frame <= segment:
				met["alone"]++
			default:
				met["too long"]++
				answers(t, what, catalog.Format(d, 2, 1), api.ErrFull)
				noOpen(t, what, d, api.ErrMagic)
				answers(t, what+" again", catalog.Format(d, 2, 1), api.ErrFull)
				continue
			}
			answers(t, what, catalog.Format(d, 2, 1), api.OK)
			if !store && !bytes.Equal(d.Image(), emptyStore(n, 128, 2, 1, seq)) {
				t.Errorf("%s: other bytes", what)
			}
			if c := open(t, d); c.Super().Seq != seq {
				t.Errorf("%s: %v", what, c.Super())
			}
		}
		if met["too long"] > 3 {
			break
		}
	}
	if met["behind the blobs"] == 0 || met["alone"] == 0 || met["too long"] == 0 {
		t.Errorf("14.1: %v", met)
	}
}

// TestFormatNoStoreIsLeft: a disk whose segments are too small for the page has no store any more, though it had one.
func TestFormatNoStoreIsLeft(t *testing.T) {
	d := newDisk(t, 2+2*512, 128)
	must(t, "14.1: Format", catalog.Format(d, 64, 3))
	c := open(t, d)
	answers(t, "14.1: marks that are longer than a segment", catalog.Format(d, 2, 3), api.ErrFull)
	noOpen(t, "14.1", d, api.ErrMagic)
	if !c.Dead() {
		t.Error("14.5: a catalog is not dead where no superblock holds")
	}
	must(t, "14.1: Format", catalog.Format(d, 64, 3))
	if s := open(t, d).Super(); s.Seq != 1 {
		t.Errorf("14.1: none held: Seq %d", s.Seq)
	}
}

// setSlots gives a disk's two slots these bytes; none: as they are.
func setSlots(d *disk.Disk, slots ...[]byte) *disk.Disk {
	d = d.Copy()
	for i, b := range slots {
		if b != nil {
			d.Write(i, b)
		}
	}
	d.Flush()
	return d
}

// TestFormatSteps: which slot is made zeros first, what is flushed when, and the Seq.
func TestFormatSteps(t *testing.T) {
	base := storeDisk(t, 3)
	s, _ := modelSuper(base)
	with := func(seq uint64) []byte {
		x := s
		x.Seq = seq
		return superBytes(x, size)
	}
	zeros := make([]byte, size)
	torn := slices.Clone(with(8))
	torn[51]++
	for i, row := range []struct {
		slots [2][]byte
		first int
		seq   uint64
	}{
		{[2][]byte{zeros, zeros}, 1, 1},
		{[2][]byte{zeros, with(1)}, 0, 2},
		{[2][]byte{with(2), with(1)}, 1, 3},
		{[2][]byte{with(2), with(3)}, 0, 4},
		{[2][]byte{with(2), zeros}, 1, 3},
		{[2][]byte{with(0), zeros}, 1, 1},
		{[2][]byte{with(0), with(last - 1)}, 0, last},
		{[2][]byte{torn, with(3)}, 0, 4},
		{[2][]byte{with(6), torn}, 1, 7},
		{[2][]byte{torn, torn}, 1, 1},
		{[2][]byte{with(3), with(8)}, 1, 1}, // whole but for their parity
	} {
		d := setSlots(base, row.slots[0], row.slots[1])
		what := fmt.Sprintf("14.1: row %d", i)
		format := func(d *disk.Disk) api.Errno { return catalog.Format(d, span, 5) }
		events := eventsOf(t, d, format)
		want := []int{row.first, flush, 1 - row.first, flush}
		want = append(want, events[4:len(events)-3]...)
		want = append(want, flush, int(row.seq%2), flush)
		if !slices.Equal(events, want) || slices.Contains(events[4:len(events)-3], flush) {
			t.Errorf("%s: events %v, want %v", what, events, want)
		}
		for _, sector := range events[4 : len(events)-3] {
			if sector < 2 {
				t.Errorf("%s: events %v", what, events)
			}
		}
		must(t, what, format(d))
		c := open(t, d)
		if c.Super().Seq != row.seq || c.Page().Window != 5 || len(c.Page().Versions) != 1 || c.Page().Annal.Size != 1 {
			t.Errorf("%s: %v", what, c.Super())
		}
		other, _ := d.Read(1 - int(row.seq%2))
		if !bytes.Equal(other, zeros) {
			t.Errorf("%s: the other slot is not zeros", what)
		}
	}
}

// TestFormatZeros: what is written into the slots ahead of the store are zeros, whatever stood there.
func TestFormatZeros(t *testing.T) {
	d := storeDisk(t, 3)
	s, _ := modelSuper(d)
	holding := int(s.Seq % 2)
	zeros := make([]byte, size)
	for n, want := range [][2]bool{{false, false}, {true, false}, {true, false}, {true, true}, {true, true}, {true, true}} {
		x := d.Copy()
		x.Fuse(n)
		answers(t, "14.1: Format", catalog.Format(x, span, 5), api.ErrPower)
		x.Crash(api.Crash{Keep: []bool{true, true, true, true, true, true}, Torn: -1})
		other, _ := x.Read(1 - holding)
		own, _ := x.Read(holding)
		if bytes.Equal(other, zeros) != want[0] || bytes.Equal(own, zeros) != want[1] {
			t.Errorf("14.1: with the fuse %d: the other slot %x, the one that holds %x", n, other[:8], own[:8])
		}
	}
}

func TestFormatLast(t *testing.T) {
	d := storeDisk(t, 2)
	s, _ := modelSuper(d)
	s.Seq = last
	old := s
	old.Seq = last - 1
	for i, x := range []*disk.Disk{setSlots(d, superBytes(s, size), make([]byte, size)), setSlots(d, superBytes(s, size), superBytes(old, size))} {
		what := fmt.Sprint("14.1: the last Seq holds, ", i)
		c := open(t, x)
		before := viewOf(c)
		unwritten(t, what, x, func() { answers(t, what, catalog.Format(x, span, 3), api.ErrLast) })
		unwritten(t, what, x, func() { answers(t, what+", another span", catalog.Format(x, 2, 3), api.ErrLast) })
		if c.Dead() {
			t.Errorf("%s: a refused Format lets a catalog die", what)
		}
		holds(t, what, viewOf(open(t, x)), before)
		answers(t, what, catalog.Format(x, span, 0), api.ErrWindow)
		x.Fuse(0)
		answers(t, what+", with the fuse 0", catalog.Format(x, span, 3), api.ErrLast)
		x.Flush()
		answers(t, what+", with the power gone", catalog.Format(x, span, 3), api.ErrPower)
	}
	s.Seq = last // without its page it holds all the same
	s.Page.At = 0
	x := setSlots(d, superBytes(s, size), make([]byte, size))
	noOpen(t, "14.2: no page", x, api.ErrPage)
	unwritten(t, "14.1: the page is not looked at", x, func() { answers(t, "14.1: Format", catalog.Format(x, span, 3), api.ErrLast) })
	s.Seq = 6
	x = setSlots(d, superBytes(s, size), make([]byte, size))
	answers(t, "14.1: over a store without a page", catalog.Format(x, span, 3), api.OK)
	if c := open(t, x); c.Super().Seq != 7 {
		t.Errorf("14.1: %v", c.Super())
	}
}

// TestFormatOverAnything: what lies on a disk does not matter to the store that is made.
func TestFormatOverAnything(t *testing.T) {
	r := noise(1)
	image := make([]byte, sectors*size)
	for i := range image {
		image[i] = byte(r.Uint32())
	}
	d, e := disk.Load(image, size)
	must(t, "3.1: Load", e)
	noOpen(t, "14.2: noise", d, api.ErrMagic)
	must(t, "14.1: Format", catalog.Format(d, span, 3))
	want := viewOf(open(t, formatted(t, 3)))
	holds(t, "14.1: over noise", viewOf(open(t, d)), want)

	d = storeDisk(t, 5)
	seq := open(t, d).Super().Seq
	must(t, "14.1: Format", catalog.Format(d, span, 3))
	want.Super.Seq = seq + 1
	holds(t, "14.1: over a store", viewOf(open(t, d)), want)
	c := grown(t, d, 5)
	if c.Latest().Number != 5 || c.Super().Seq != seq+6 {
		t.Errorf("14.1: the new store does not go on: %v", c.Super())
	}
}

// TestFormatBroken: the power goes at each write and flush, and any crash follows: the store that was there, none, or the new one.
func TestFormatBroken(t *testing.T) {
	t.Parallel()
	older := setSlots(storeDisk(t, 4), make([]byte, size)) // slot 0 is empty, so the one that holds stands in slot 1
	for i, d := range []*disk.Disk{newDisk(t, sectors, size), formatted(t, 3), storeDisk(t, 1), storeDisk(t, 4), older} {
		var before view
		had := false
		if c, e := catalog.Open(d); e == api.OK {
			before, had = viewOf(c), true
		}
		done := d.Copy()
		must(t, "14.1: Format", catalog.Format(done, span, 5))
		after := viewOf(open(t, done))
		events := eventsOf(t, d, func(d *disk.Disk) api.Errno { return catalog.Format(d, span, 5) })
		met := map[string]int{}
		for fuse := range len(events) {
			x := d.Copy()
			x.Fuse(fuse)
			answers(t, "14.1: Format", catalog.Format(x, span, 5), api.ErrPower)
			for _, crash := range crashesOf(len(x.Pending()), noise(uint64(fuse))) {
				y := x.Copy()
				y.Crash(crash)
				c, e := catalog.Open(y)
				what := fmt.Sprintf("14.1: disk %d, fuse %d, %v", i, fuse, crash)
				switch {
				case e == api.ErrMagic:
					met["none"]++
					if had && fuse < 2 {
						t.Errorf("%s: no store, ahead of the first flush", what)
					}
				case e != api.OK:
					t.Errorf("%s: %d", what, e)
				case had && same(viewOf(c), before):
					met["old"]++
					if fuse > 3 {
						t.Errorf("%s: the old store, behind the second flush", what)
					}
				case same(viewOf(c), after):
					met["new"]++
					if fuse != len(events)-1 {
						t.Errorf("%s: the new store, ahead of its superblock", what)
					}
				default:
					t.Errorf("%s: %s", what, viewOf(c).short())
				}
				if again := y.Copy(); catalog.Format(again, span, 5) != api.OK {
					t.Errorf("%s: another Format does not mend it", what)
				}
			}
		}
		if met["none"] == 0 || met["new"] == 0 || had && met["old"] == 0 {
			t.Errorf("14.1: disk %d: %v", i, met)
		}
	}
}
