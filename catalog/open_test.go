package catalog_test

import (
	"fmt"
	"runtime"
	"slices"
	"testing"

	"witness/api"
	"witness/catalog"
	"witness/disk"
)

// opens holds Open against the model, and tells what it answered: that it writes nothing, and that it answers the same again.
func opens(t *testing.T, what string, d *disk.Disk) api.Errno {
	t.Helper()
	want, e := modelOpen(d)
	var got api.Errno
	unwritten(t, what, d, func() {
		if e != api.OK {
			noOpen(t, what, d, e)
			got = e
			return
		}
		c, errno := catalog.Open(d)
		if got = errno; c == nil || errno != api.OK {
			t.Errorf("14.2: %s: Open = %v, %d, want 0", what, c != nil, errno)
			return
		}
		found(t, what, c, want)
		again, _ := catalog.Open(d)
		holds(t, "14.10: "+what+": opened again", viewOf(again), viewOf(c))
	})
	return got
}

// found holds a catalog that was just opened against the model.
func found(t *testing.T, what string, c *catalog.Catalog, m model) {
	t.Helper()
	v := viewOf(c)
	if v.Super != m.super || v.Latest != m.page.Versions[len(m.page.Versions)-1] || c.Dead() {
		t.Errorf("14.3: %s: %v, %v, dead: %v", what, v.Super, v.Latest, c.Dead())
	}
	if string(pageBytes(v.Page)) != string(pageBytes(m.page)) {
		t.Errorf("14.3: %s: another page: %v", what, v.Page)
	}
	var want []item
	for _, a := range m.live {
		want = append(want, item{a, m.there[a].place})
	}
	if !slices.Equal(v.Blobs, want) {
		t.Errorf("14.2: %s: %d blobs are there, want %d", what, len(v.Blobs), len(want))
	}
	if !slices.Equal(v.Tail.Marks, m.marks) || v.Tail.Serial != m.page.Serial || slices.Contains(v.Tail.Held, true) {
		t.Errorf("14.2: %s: the log is %v, want the marks %v, serial %d", what, v.Tail, m.marks, m.page.Serial)
	}
	there := map[api.Addr]stored{}
	for _, a := range m.live {
		there[a] = m.there[a]
	}
	live, e := modelLive(there, m.page, false)
	if !slices.Equal(v.Live, live) || v.LiveErr != e {
		t.Errorf("14.4: %s: Live = %d addresses, %d, want %d, %d", what, len(v.Live), v.LiveErr, len(live), e)
	}
}

// pages are stores of three kept versions: the page behind other frames of its segment, alone in one, and one of which the newest versions are not the first.
func pages(t *testing.T) map[string]*hand {
	t.Helper()
	behind := wideSegment(t)
	return map[string]*hand{"behind others": handOf(t, behind), "alone": alone(t, storeDisk(t, 5))}
}

// wideSegment is a store whose page lies behind other frames and has room behind it.
func wideSegment(t *testing.T) *disk.Disk {
	t.Helper()
	d := storeDisk(t, 4)
	for range 20 {
		s, _ := modelSuper(d)
		if s.Page.At > 16 && s.Page.At+s.Page.Len+100 < whole {
			return d
		}
		must(t, "14.9: Commit", open(t, d).Commit())
	}
	t.Fatal("no page has room behind it")
	return nil
}

// TestOpenPages: each thing that is asked of the page, broken alone and two at a time.
func TestOpenPages(t *testing.T) {
	t.Parallel()
	for name, h := range pages(t) {
		faults := slices.Concat(pageFaults(), markFaults(), whims())
		met := map[api.Errno]int{}
		for i, f := range faults {
			one := h.copied()
			f.do(one)
			what := name + ": " + f.name
			answers(t, "14.2: "+what, opens(t, what, one.lay()), f.want)
			for j, g := range faults {
				if i == j {
					continue
				}
				two := h.copied()
				f.do(two)
				if len(two.page.Versions) == 3 && len(two.page.Marks) == segments && len(two.page.Annal.Peaks) > 1 {
					g.do(two)
					met[opens(t, what+", and "+g.name, two.lay())]++
				}
			}
		}
		if met[api.ErrPage] < 2000 || met[api.ErrMarks] < 100 || met[api.OK] < 50 || len(met) != 3 {
			t.Errorf("14.2: %s: answers to two faults: %v", name, met)
		}
	}
}

// slotSorts are what may stand in a slot, made of a whole superblock.
func slotSorts() map[string]func(s api.Super, slot int) []byte {
	turned := func(at int) func(s api.Super, slot int) []byte {
		return func(s api.Super, slot int) []byte {
			b := superBytes(s, size)
			b[at] ^= 1
			return b
		}
	}
	changed := func(f func(s *api.Super)) func(s api.Super, slot int) []byte {
		return func(s api.Super, slot int) []byte {
			f(&s)
			return superBytes(s, size)
		}
	}
	return map[string]func(s api.Super, slot int) []byte{
		"zeros":            func(api.Super, int) []byte { return make([]byte, size) },
		"whole":            changed(func(*api.Super) {}),
		"a letter":         turned(7),
		"a check sum":      turned(43),
		"torn":             turned(51),
		"a byte behind":    turned(127),
		"another size":     changed(func(s *api.Super) { s.Size *= 2 }),
		"one sector more":  changed(func(s *api.Super) { s.Sectors++ }),
		"one sector less":  changed(func(s *api.Super) { s.Sectors-- }),
		"wrong parity":     changed(func(s *api.Super) { s.Seq++ }),
		"far greater, odd": changed(func(s *api.Super) { s.Seq += 101 }),
		"above the last":   changed(func(s *api.Super) { s.Seq += last + 2 }),
		"no page":          changed(func(s *api.Super) { s.Page.At++ }),
		"greater":          changed(func(s *api.Super) { s.Seq += 100 }),
	}
}

// TestOpenSlots: which superblock holds, whatever stands in the two slots.
func TestOpenSlots(t *testing.T) {
	t.Parallel()
	base := storeDisk(t, 4)
	newer, _ := modelSuper(base)
	b, _ := base.Read(1 - int(newer.Seq%2))
	older, e := readSuper(b)
	must(t, "2.8: ReadSuper", e)
	if older.Seq != newer.Seq-1 || older.Page == newer.Page {
		t.Fatalf("14.6: the slots hold %v and %v", older, newer)
	}
	met := map[string]int{}
	sorts := slotSorts()
	for x, left := range sorts {
		for y, right := range sorts {
			for _, seqs := range [][2]uint64{{6, 5}, {6, 7}, {0, 1}, {last, last - 1}, {last - 2, last - 1}} {
				one, two := older, newer
				one.Seq, two.Seq = seqs[0], seqs[1]
				d := setSlots(base, left(one, 0), right(two, 1))
				what := fmt.Sprintf("%s (Seq %d) and %s (Seq %d)", x, one.Seq, y, two.Seq)
				got := opens(t, what, d)
				want, ok := modelSuper(d)
				switch {
				case !ok:
					met["none"]++
					answers(t, "14.2: "+what, got, api.ErrMagic)
				case want.Page == older.Page:
					met["slot 0"]++
				case want.Page == newer.Page:
					met["slot 1"]++
				default:
					met["no page"]++
					answers(t, "14.2: "+what, got, api.ErrPage)
				}
				if x == "whole" && y == "whole" && (want.Seq != max(one.Seq, two.Seq) || got != api.OK) {
					t.Errorf("14.2: %s: %v holds, %d", what, want, got)
				}
			}
		}
	}
	for _, what := range []string{"none", "slot 0", "slot 1", "no page"} {
		if met[what] < 50 {
			t.Errorf("14.2: %v", met)
		}
	}
}

// TestOpenNothing: disks that are none of a store.
func TestOpenNothing(t *testing.T) {
	noOpen(t, "14.2: no disk", nil, api.ErrMagic)
	noOpen(t, "14.2: a disk that nobody made", &disk.Disk{}, api.ErrMagic)
	for _, n := range []int{1, 2, 3, 5, 66} {
		d := newDisk(t, n, size)
		noOpen(t, "14.2: zeros", d, api.ErrMagic)
		s := api.Super{Seq: 2, Size: size, Sectors: n, Span: 2, Page: api.Place{At: 16, Len: 13}}
		d.Write(0, superBytes(s, size))
		noOpen(t, fmt.Sprintf("14.2: a superblock on a disk of %d sectors", n), d, api.ErrPage)
		s.Seq = 1
		d.Write(0, superBytes(s, size))
		noOpen(t, "14.2: in the other one's slot", d, api.ErrMagic)
		d.Fuse(0)
		d.Flush()
		noOpen(t, "14.2: with the power gone", d, api.ErrPower)
	}
	for _, d := range []*disk.Disk{storeDisk(t, 2), alone(t, storeDisk(t, 5)).lay()} {
		d.Fuse(0)
		d.Flush()
		unwritten(t, "14.2: with the power gone", d, func() { noOpen(t, "14.2: with the power gone", d, api.ErrPower) })
		d.Crash(api.Crash{})
		answers(t, "14.2: behind a crash", opens(t, "behind a crash", d), api.OK)
	}
}

// TestOpenFuse: reading burns no fuse.
func TestOpenFuse(t *testing.T) {
	d := storeDisk(t, 2)
	d.Fuse(0)
	answers(t, "14.2: with the fuse 0", opens(t, "with the fuse 0", d), api.OK)
	if d.Off() {
		t.Error("14.2: Open writes")
	}
}

// TestOpenBehindTheLastCommit: what was put and not committed is not there, and is written over.
func TestOpenBehindTheLastCommit(t *testing.T) {
	for _, ends := range []bool{false, true} {
		d := storeDisk(t, 2)
		before := viewOf(open(t, d))
		c := open(t, d)
		tree := put(t, c, "new", "not committed")
		c.Blobs().Put(api.KindValue, make([]byte, 900)) // in another segment
		if ends {
			must(t, "6.8: End", c.Blobs().End())
		}
		must(t, "3.4: Flush", d.Flush())
		places := each(c.Blobs())
		n := open(t, d)
		holds(t, "14.2: what was put and flushed", viewOf(n), before)
		if _, there := n.Blobs().Where(tree.Addr); there {
			t.Error("14.2: a tree that was not committed is there")
		}
		put(t, n, "new", "not committed")
		n.Blobs().Put(api.KindValue, make([]byte, 900))
		if !slices.Equal(each(n.Blobs()), places) {
			t.Error("14.2: what was put is not written over")
		}
	}
}

// TestOpenHoldsBack: one free segment is held back behind Open.
func TestOpenHoldsBack(t *testing.T) {
	for _, versions := range []int{0, 3} {
		c := open(t, storeDisk(t, versions))
		must(t, "6.8: Begin", c.Blobs().Begin())
		var e api.Errno
		for i := 0; e == api.OK; i++ {
			_, e = c.Blobs().Put(api.KindValue, append(make([]byte, 800), byte(i)))
		}
		free := 0
		for _, m := range c.Blobs().Log().Tail().Marks {
			if m == (api.Mark{}) {
				free++
			}
		}
		if e != api.ErrFull || free != 1 {
			t.Errorf("14.2: %d, and %d segments are free", e, free)
		}
	}
}

// TestOpenRot: each byte of the slots and of what is used turned, one at a time: what cannot be read is passed over, with what hangs there alone.
func TestOpenRot(t *testing.T) {
	t.Parallel()
	d := storeDisk(t, 4)
	m, _ := modelOpen(d)
	met := map[string]int{}
	for sector := range d.Sectors() {
		seg, at := (sector-2)/span, (sector-2)%span*size
		for i := range size {
			if sector >= 2 && at+i >= m.marks[seg].Used+3 || i%3 != sector%3 && sector > 1 {
				continue
			}
			must(t, "3.8: Rot", d.Rot(sector, i, 4))
			e := opens(t, fmt.Sprintf("byte %d of sector %d", i, sector), d)
			x, _ := modelOpen(d)
			switch {
			case e != api.OK:
				met["refused"]++
			case x.super.Seq != m.super.Seq:
				met["the older one"]++
			case len(x.live) < len(m.live):
				met["less is there"]++
			default:
				met["as it was"]++
			}
			must(t, "3.8: Rot", d.Rot(sector, i, 4))
		}
	}
	for _, what := range []string{"refused", "the older one", "less is there", "as it was"} {
		if met[what] < 30 {
			t.Errorf("14.2: %v", met)
		}
	}
	answers(t, "14.2: turned back", opens(t, "turned back", d), api.OK)
}

// blank is a store by hand on a disk of zeros: a page alone in segment 0, of a state whose blobs are nowhere.
func blank(t *testing.T, sectors, size, span, at int, serial uint64) *hand {
	t.Helper()
	h := &hand{disk: newDisk(t, sectors, size), serial: serial, kind: 5}
	h.super = api.Super{Seq: 5, Size: size, Sectors: sectors, Span: span, Page: api.Place{At: at}}
	ended(&h.page, 3, 2)
	h.page.Window, h.page.Serial = 4, serial
	h.page.Marks = make([]api.Mark, (sectors-2)/span)
	h.page.Marks[0] = api.Mark{Serial: serial, Used: at}
	return h
}

// TestOpenGeometry: spans and numbers of segments at their bounds, of stores that are whole in all else.
func TestOpenGeometry(t *testing.T) {
	for _, row := range []struct {
		sectors, size, span int
		want                api.Errno
	}{
		{2 + 2*2, 512, 2, api.OK}, {2 + 2*2 + 1, 512, 2, api.OK}, {2 + 3*2, 4096, 2, api.OK},
		{2 + 2*1, 4096, 1, api.ErrPage}, {2 + 6*1, 4096, 1, api.ErrPage},
		{2 + 2*1024, 128, 1024, api.OK}, {2 + 2*1025, 128, 1025, api.ErrPage}, {2 + 3*2000, 128, 2000, api.ErrPage},
		{2 + 2*2 - 1, 512, 2, api.ErrPage}, {2 + 2*1024 - 1, 128, 1024, api.ErrPage}, {2 + 8, 512, 8, api.ErrPage},
	} {
		what := fmt.Sprintf("%d sectors of %d bytes, span %d", row.sectors, row.size, row.span)
		answers(t, "14.2: "+what, opens(t, what, blank(t, row.sectors, row.size, row.span, 16, 7).lay()), row.want)
	}
}

// TestOpenPageInHeader: a frame that begins in its segment's header, though both are whole.
func TestOpenPageInHeader(t *testing.T) {
	serial := uint64(1)
	for headerBytes(serial)[15] != 0 { // as a frame's first byte is
		serial++
	}
	h := blank(t, 2+4*8, 128, 8, 15, serial)
	answers(t, "14.2: At 15", opens(t, "At 15", h.lay()), api.ErrPage)
	h = blank(t, 2+4*8, 128, 8, 16, serial)
	answers(t, "14.2: At 16", opens(t, "At 16", h.lay()), api.OK)
}

// TestOpenToTheEnd: a page that ends with its segment.
func TestOpenToTheEnd(t *testing.T) {
	for spare := range 3 {
		h := blank(t, 2+4*8, 128, 8, 500, 1)
		h.super.Page.At = whole - spare - 13 - len(pageBytes(h.page))
		h.page.Marks[0].Used = h.super.Page.At
		d := h.lay()
		if s, _ := modelSuper(d); s.Page.At+s.Page.Len != whole-spare {
			t.Fatalf("the page lies at %v", s.Page)
		}
		answers(t, "14.2: up to the end", opens(t, fmt.Sprint("spare ", spare), d), api.OK)
	}
}

// TestOpenWhileThePowerGoes: what cannot be read because the power is gone is not taken for damage.
func TestOpenWhileThePowerGoes(t *testing.T) {
	d := wide(t, 40)
	c := open(t, d)
	for i := range 40 {
		add(t, c, fmt.Sprint(i), "value")
	}
	want := open(t, d).Blobs().Len()
	for i := range 300 {
		x := d.Copy()
		x.Fuse(0)
		begun := make(chan bool)
		go func() {
			close(begun)
			for x.Stats().Reads-d.Stats().Reads < uint64(i*7) && !x.Off() {
				runtime.Gosched()
			}
			x.Flush()
		}()
		<-begun
		c, e := catalog.Open(x)
		if e != api.OK && e != api.ErrPower || e == api.OK && c.Blobs().Len() != want || e != api.OK && c != nil {
			t.Fatalf("14.2: Open = %v, %d, want all %d blobs or %d", c != nil, e, want, api.ErrPower)
		}
		x.Flush()
	}
}
