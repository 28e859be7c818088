package catalog_test

import (
	"bytes"
	"fmt"
	"math"
	"slices"
	"testing"

	"witness/annals"
	"witness/api"
	"witness/catalog"
	"witness/disk"
	"witness/segment"
	"witness/skip"
)

// wanted is the superblock and the page that a commit leaves: of a state (marks and serial are not looked at), from this tail of the log and this superblock on.
func wanted(t *testing.T, super api.Super, tail api.Tail, p api.Page) (api.Super, api.Page) {
	t.Helper()
	bytesOf := super.Span * super.Size
	p.Marks, p.Serial = slices.Clone(tail.Marks), tail.Serial
	seg, at := tail.Current, 0
	if seg >= 0 {
		at = p.Marks[seg].Used
	}
	if seg < 0 || at+13+len(pageBytes(p)) > bytesOf {
		seg, at = -1, 16
		for i, m := range p.Marks {
			if seg < 0 && m == (api.Mark{}) && !tail.Held[i] {
				seg = i
			}
		}
		p.Serial++
		p.Marks[seg] = api.Mark{Serial: p.Serial, Used: 16}
	}
	super.Seq++
	super.Page = api.Place{Seg: seg, At: at, Len: 13 + len(pageBytes(p))}
	return super, p
}

// committed holds a catalog behind a commit against what it has to have left, in memory and on the disk.
func committed(t *testing.T, what string, c *catalog.Catalog, super api.Super, p api.Page) {
	t.Helper()
	d := c.Blobs().Log().Disk()
	if c.Super() != super || string(pageBytes(c.Page())) != string(pageBytes(p)) {
		t.Errorf("14.6: %s: %v, %v, want %v, %v", what, c.Super(), c.Page(), super, p)
	}
	slot, _ := d.Read(int(super.Seq % 2))
	if !bytes.Equal(slot, superBytes(super, d.Size())) {
		t.Errorf("14.6: %s: other bytes in the slot", what)
	}
	frame := frameBytes(p.Marks[super.Page.Seg].Serial, super.Page.At, 5, pageBytes(p))
	seg := segmentOf(d, super.Span, super.Page.Seg)
	if !bytes.Equal(seg[super.Page.At:super.Page.At+super.Page.Len], frame) {
		t.Errorf("14.6: %s: other bytes of the page", what)
	}
	tail := c.Blobs().Log().Tail()
	marks := slices.Clone(p.Marks)
	marks[super.Page.Seg].Used += super.Page.Len
	if !slices.Equal(tail.Marks, marks) || tail.Serial != p.Serial || slices.Contains(tail.Held, true) {
		t.Errorf("14.6: %s: the log is %v, want %v", what, tail, marks)
	}
	if len(d.Pending()) != 0 || c.Dead() {
		t.Errorf("14.6: %s: pending %v, dead %v", what, d.Pending(), c.Dead())
	}
	answers(t, "14.7: "+what+": the change has ended", c.Blobs().End(), api.ErrOpen)
}

// TestCommit: pages that fit into the segment just and just not, and what is left behind each.
func TestCommit(t *testing.T) {
	const whole = 64 * 512
	for spare := -3; spare <= 3; spare++ {
		for _, begun := range []bool{false, true} {
			d := wide(t, 3)
			c := grown(t, d, 4)
			if begun {
				must(t, "6.8: Begin", c.Blobs().Begin())
			}
			log := c.Blobs().Log()
			fill := func(n int) { // a frame of so many bytes
				_, e := c.Blobs().Put(api.KindValue, bytes.Repeat([]byte{byte(n)}, n-14))
				must(t, "6.3: Put", e)
			}
			fill(20000) // so that used bytes are told by three bytes, here and further on
			tail := log.Tail()
			p := c.Page()
			p.Marks = tail.Marks
			fill(whole - spare - 13 - len(pageBytes(p)) - tail.Marks[tail.Current].Used)
			super, page := wanted(t, c.Super(), log.Tail(), p)
			what := fmt.Sprintf("spare %d, a change begun: %v", spare, begun)
			if fits := super.Page.At != 16; fits != (spare >= 0) || fits && super.Page.At+super.Page.Len+spare != whole {
				t.Errorf("14.6: %s: the page is wanted at %v", what, super.Page)
			}
			answers(t, "14.9: "+what, c.Commit(), api.OK)
			committed(t, what, c, super, page)
			found(t, what, open(t, d), opened(t, d))
		}
	}
}

// opened is the model of a disk that can be opened.
func opened(t *testing.T, d *disk.Disk) model {
	t.Helper()
	m, e := modelOpen(d)
	must(t, "14.2: the model", e)
	return m
}

// TestAdd: what each version leaves, for windows of all sorts, with a change begun by the caller and without.
func TestAdd(t *testing.T) {
	t.Parallel()
	for _, window := range []int{1, 2, 3, 63, 64} {
		d := newDisk(t, 2+20*64, 512)
		must(t, "14.1: Format", catalog.Format(d, 64, window))
		c := open(t, d)
		good := c.Latest().Tree
		versions := c.Page().Versions
		leaves := []api.Leaf{{Label: good.Label}}
		for i := 1; i <= 70; i++ {
			must(t, "6.8: Begin", c.Blobs().Begin())
			tree, e := skip.Put(c.Blobs(), good, []byte(fmt.Sprint(i%7)), []byte(fmt.Sprint(i)))
			must(t, "8.5: Put", e)
			if good = tree; i%3 == 0 {
				tree = api.Tree{Count: uint64(i), Label: api.Sum{byte(i)}} // it is not looked at
			}
			if i%2 == 0 {
				must(t, "6.8: End", c.Blobs().End())
			}
			version := api.Version{Number: uint64(i), Tree: tree}
			versions = append(versions, version)
			leaves = append(leaves, api.Leaf{Version: version.Number, Label: tree.Label})
			p := c.Page()
			p.Last++
			p.Versions = versions[max(0, len(versions)-window):]
			var tail api.Tail
			p.Annal, tail = annalsAhead(t, c, leaves[i])
			super, page := wanted(t, c.Super(), tail, p)
			v, e := c.Add(tree)
			if v != version || e != api.OK || c.Latest() != version {
				t.Fatalf("14.8: Add = %v, %d, want %v; the newest is %v", v, e, version, c.Latest())
			}
			committed(t, fmt.Sprintf("window %d, version %d", window, i), c, super, page)
			for n := range uint64(i + 3) {
				x, e := c.Version(n)
				kept := n <= uint64(i) && n+uint64(window) > uint64(i)
				if kept && (x != versions[n] || e != api.OK) || !kept && (x != (api.Version{}) || e != api.ErrVersion) {
					t.Errorf("14.3: window %d, version %d: Version(%d) = %v, %d", window, i, n, x, e)
				}
			}
			if i%10 == 3 {
				found(t, "14.8: opened again", open(t, d), opened(t, d))
			}
		}
		if annals.Head(c.Page().Annal) != annals.Over(leaves) {
			t.Errorf("14.12: window %d: another head of the annals", window)
		}
		for i, l := range leaves {
			if x, e := annals.Leaf(c.Blobs(), c.Page().Annal, uint64(i)); x != l || e != api.OK {
				t.Errorf("14.12: window %d: leaf %d is %v, %d", window, i, x, e)
			}
		}
	}
}

// annalsAhead are a catalog's annals with a leaf more, and the log's tail with them; unless a change has begun they are taken back.
func annalsAhead(t *testing.T, c *catalog.Catalog, l api.Leaf) (api.Annal, api.Tail) {
	t.Helper()
	log := c.Blobs().Log()
	before := log.Tail()
	own := c.Blobs().Begin() == api.OK
	annal, e := annals.Append(c.Blobs(), c.Page().Annal, l)
	must(t, "13.2: Append", e)
	tail := log.Tail()
	if own {
		must(t, "6.8: Undo", c.Blobs().Undo())
		if !sameTail(log.Tail(), before) {
			t.Fatal("6.8: Undo leaves another tail")
		}
	}
	return annal, tail
}

func sameTail(a, b api.Tail) bool {
	return slices.Equal(a.Marks, b.Marks) && slices.Equal(a.Held, b.Held) && a.Serial == b.Serial && a.Current == b.Current
}

// TestEvents: what is written when: the blobs and the page, a flush, the superblock in the slot of the one before the last, a flush.
func TestEvents(t *testing.T) {
	for versions := range 5 {
		d := storeDisk(t, versions)
		s, _ := modelSuper(d)
		for name, call := range map[string]func(d *disk.Disk) api.Errno{
			"Commit": commitOf,
			"Keep":   func(d *disk.Disk) api.Errno { return open(t, d).Keep(2) },
			"Add": func(d *disk.Disk) api.Errno {
				c := open(t, d)
				_, e := c.Add(c.Latest().Tree)
				return e
			},
		} {
			events := eventsOf(t, d, call)
			n := len(events)
			if n < 4 || !slices.Equal(events[n-3:], []int{flush, int(s.Seq+1) % 2, flush}) || slices.Min(events[:n-3]) < 2 {
				t.Errorf("14.6: %s over %d versions: events %v", name, versions, events)
			}
		}
	}
}

// TestKeep: windows below, at and above the number of versions, and what they leave.
func TestKeep(t *testing.T) {
	d := wide(t, 5)
	c := open(t, d)
	for i := range 5 {
		add(t, c, fmt.Sprint(i), "")
	}
	versions := c.Page().Versions
	for _, window := range []int{5, 64, 4, 6, 3, 3, 2, 1, 64, 1} {
		super, page := wanted(t, c.Super(), c.Blobs().Log().Tail(), kept(c.Page(), window))
		answers(t, fmt.Sprintf("14.9: Keep(%d)", window), c.Keep(window), api.OK)
		committed(t, fmt.Sprintf("Keep(%d)", window), c, super, page)
		versions = versions[max(0, len(versions)-window):]
		if !slices.Equal(c.Page().Versions, versions) || c.Page().Window != window {
			t.Errorf("14.9: Keep(%d): %v", window, c.Page())
		}
		for _, x := range []int{math.MinInt, -1, 0, 65, 66, math.MaxInt} {
			before := viewOf(c)
			unwritten(t, "14.9: Keep", d, func() { answers(t, fmt.Sprintf("14.9: Keep(%d)", x), c.Keep(x), api.ErrWindow) })
			holds(t, "14.11: behind ErrWindow", viewOf(c), before)
		}
		if n := reserveOf(t, c); n != 1 {
			t.Errorf("14.9: behind Keep(%d) %d segments are held back", window, n)
		}
		found(t, "14.9: opened again", open(t, d), opened(t, d))
	}
	must(t, "14.9: Keep", c.Keep(3))
	for i := range 4 {
		add(t, c, fmt.Sprint("more ", i), "")
		if n := len(c.Page().Versions); n != min(i+2, 3) {
			t.Errorf("14.8: %d versions are kept", n)
		}
	}
}

func kept(p api.Page, window int) api.Page {
	p.Window = window
	p.Versions = p.Versions[max(0, len(p.Versions)-window):]
	return p
}

// reserveOf is how many free segments the log holds back.
func reserveOf(t *testing.T, c *catalog.Catalog) int {
	t.Helper()
	log := c.Blobs().Log()
	before := log.Tail()
	e := api.OK
	for e == api.OK {
		e = log.Next()
	}
	answers(t, "5.3: Next", e, api.ErrFull)
	free := 0
	for i, m := range log.Tail().Marks {
		if m == (api.Mark{}) && !before.Held[i] {
			free++
		}
	}
	must(t, "5.10: Rewind", log.Rewind(before))
	return free
}

// freeOf is how many segments are free.
func freeOf(c *catalog.Catalog) int {
	free := 0
	for _, m := range c.Blobs().Log().Tail().Marks {
		if m == (api.Mark{}) {
			free++
		}
	}
	return free
}

// TestFull: a disk that is full: nothing has changed, behind reopening too; Keep takes the last free segment.
func TestFull(t *testing.T) {
	t.Parallel()
	met := map[string]int{}
	for seed := range uint64(40) {
		r := noise(seed)
		d := newDisk(t, 2+5*span, size)
		must(t, "14.1: Format", catalog.Format(d, span, 1+r.IntN(3)))
		c := open(t, d)
		full := 0
		for i := 0; full < 3; i++ {
			before := viewOf(c)
			reopened := viewOf(open(t, d))
			must(t, "6.8: Begin", c.Blobs().Begin())
			tree, e := skip.Put(c.Blobs(), c.Latest().Tree, []byte(fmt.Sprint(i)), make([]byte, r.IntN(120)))
			if e != api.OK {
				answers(t, "8.5: Put", e, api.ErrFull)
				must(t, "6.8: Undo", c.Blobs().Undo())
				met["put"]++
				full++
			} else if _, e = c.Add(tree); e != api.OK {
				answers(t, "14.11: Add", e, api.ErrFull)
				met["add"]++
				full++
			}
			if e == api.OK {
				continue
			}
			holds(t, "14.11: behind ErrFull", viewOf(c), before)
			holds(t, "14.11: behind ErrFull and reopening", viewOf(open(t, d)), reopened)
			if c.Dead() || reserveOf(t, c) != 1 || freeOf(c) != 1 {
				t.Errorf("14.11: dead %v, held back %d, free %d", c.Dead(), reserveOf(t, c), freeOf(c))
			}
			answers(t, "14.7: the change is undone", c.Blobs().Begin(), api.OK)
			answers(t, "14.7: the change is undone", c.Blobs().Undo(), api.OK)
		}
		for i := 0; ; i++ {
			before := viewOf(c)
			e := c.Commit()
			if e == api.OK {
				met["commit"]++
				continue
			}
			answers(t, "14.11: Commit", e, api.ErrFull)
			holds(t, "14.11: behind ErrFull", viewOf(c), before)
			break
		}
		super, page := wanted(t, c.Super(), c.Blobs().Log().Tail(), kept(c.Page(), c.Page().Window))
		if freeOf(c) != 1 || super.Page.At != 16 {
			t.Fatalf("14.9: %d segments are free, the page is wanted at %v", freeOf(c), super.Page)
		}
		answers(t, "14.9: Keep of a store that is full", c.Keep(c.Page().Window), api.OK)
		committed(t, "Keep", c, super, page)
		if freeOf(c) != 0 {
			t.Errorf("14.9: %d segments are free", freeOf(c))
		}
		for {
			before := viewOf(c)
			e := c.Keep(1)
			if e == api.OK {
				met["keep"]++
				continue
			}
			answers(t, "14.11: Keep", e, api.ErrFull)
			holds(t, "14.11: behind ErrFull", viewOf(c), before)
			break
		}
		found(t, "14.11: opened again", open(t, d), opened(t, d))
	}
	for _, what := range []string{"put", "add", "commit", "keep"} {
		if met[what] == 0 {
			t.Errorf("14.11: %v", met)
		}
	}
}

// TestKeepHoldsBack: one segment is held back again behind Keep, whatever it answered.
func TestKeepHoldsBack(t *testing.T) {
	base := storeDisk(t, 2)
	for _, row := range []struct {
		name  string
		error api.Errno
		do    func(h *hand)
		fuse  int
	}{
		{name: "OK", fuse: -1},
		{name: "ErrLast", error: api.ErrLast, do: func(h *hand) { h.super.Seq = last }, fuse: -1},
		{name: "ErrPower", error: api.ErrPower, fuse: 0},
		{name: "ErrPower at the first flush", error: api.ErrPower, fuse: 4},
		{name: "ErrPower at the last flush", error: api.ErrPower, fuse: len(eventsOf(t, base, commitOf)) - 1},
	} {
		h := handOf(t, base)
		if row.do != nil {
			row.do(h)
		}
		d := h.lay()
		c := open(t, d)
		d.Fuse(row.fuse)
		answers(t, "14.9: "+row.name, c.Keep(2), row.error)
		back(d)
		if n := reserveOf(t, c); n != 1 {
			t.Errorf("14.9: %s: %d segments are held back", row.name, n)
		}
	}
}

// TestOrder: which error is answered where several apply, with a change begun by the caller and without; and that it is undone.
func TestOrder(t *testing.T) {
	t.Parallel()
	base := wideSegment(t)
	type call struct {
		name  string
		wrong api.Errno // if it is to be refused by itself
		do    func(c *catalog.Catalog, wrong bool) api.Errno
	}
	calls := []call{
		{"Add", api.ErrLast, func(c *catalog.Catalog, _ bool) api.Errno {
			v, e := c.Add(c.Latest().Tree)
			if e != api.OK && v != (api.Version{}) {
				t.Errorf("0.2: Add answers a version with an error")
			}
			return e
		}},
		{"Keep", api.ErrWindow, func(c *catalog.Catalog, wrong bool) api.Errno {
			if wrong {
				return c.Keep(65)
			}
			return c.Keep(2)
		}},
		{"Commit", api.OK, func(c *catalog.Catalog, _ bool) api.Errno { return c.Commit() }},
	}
	for _, x := range calls {
		for bits := range 1 << 6 {
			is := func(i int) bool { return bits&(1<<i) != 0 }
			crashed, gone, other, wrong, seq, begun := is(0), is(1), is(2), is(3), is(4), is(5)
			if wrong && x.wrong == api.OK {
				continue
			}
			h := handOf(t, base)
			if wrong && x.name == "Add" {
				ended(&h.page, last, 1)
			}
			if seq {
				h.super.Seq = last
			}
			d := h.lay()
			c := open(t, d)
			before := viewOf(c)
			if begun {
				must(t, "6.8: Begin", c.Blobs().Begin())
				c.Blobs().Put(api.KindValue, []byte("by the caller"))
				c.Blobs().Keep(nil)
			}
			if crashed {
				back(d)
			}
			if gone {
				off(d)
			}
			if other {
				d.Rot(ownSlot(c), 9, 1)
			}
			want := api.OK
			switch {
			case crashed:
				want = api.ErrDead
			case gone:
				want = api.ErrPower
			case other:
				want = api.ErrDead
			case wrong:
				want = x.wrong
			case seq:
				want = api.ErrLast
			}
			what := fmt.Sprintf("%s: crashed %v, power gone %v, another superblock %v, refused by itself %v, the last Seq %v, a change begun %v", x.name, crashed, gone, other, wrong, seq, begun)
			writes := d.Stats().Writes
			answers(t, "14.7: "+what, x.do(c, wrong), want)
			if want == api.OK {
				continue
			}
			if d.Stats().Writes != writes && want != api.ErrLast {
				t.Errorf("14.7: %s: something was written", what)
			}
			if other {
				d.Rot(ownSlot(c), 9, 1)
			}
			if dead := crashed || want == api.ErrPower; c.Dead() != dead {
				t.Errorf("14.7: %s: Dead = %v", what, !dead)
			}
			answers(t, "14.7: "+what+": the change is undone", c.Blobs().Undo(), api.ErrOpen)
			if !slices.Equal(each(c.Blobs()), before.Blobs) || !sameTail(c.Blobs().Log().Tail(), before.Tail) {
				t.Errorf("14.7: %s: the blobs or the log's tail are others", what)
			}
			if want == api.ErrPower {
				answers(t, "14.7: "+what+", once more", x.do(c, wrong), api.ErrDead)
			}
			if gone {
				back(d)
			}
			holds(t, "14.7: "+what, viewOf(c), before)
		}
	}
}

// ownSlot is the sector of a catalog's own superblock.
func ownSlot(c *catalog.Catalog) int { return int(c.Super().Seq % 2) }

// TestWithoutAChange: what was put without a change stays, whatever the commit answers.
func TestWithoutAChange(t *testing.T) {
	c := open(t, storeDisk(t, 2))
	a, e := c.Blobs().Put(api.KindValue, []byte("by the caller"))
	must(t, "6.3: Put", e)
	before := viewOf(c)
	answers(t, "14.9: Keep", c.Keep(0), api.ErrWindow)
	holds(t, "14.7: without a change", viewOf(c), before)
	if _, there := c.Blobs().Where(a); !there {
		t.Error("14.7: what was put ahead of the change is undone")
	}
	must(t, "14.9: Commit", c.Commit())
	if _, there := c.Blobs().Where(a); !there {
		t.Error("14.7: what was put ahead of the change is gone")
	}
}

// TestSettles: a segment that was freed in a change is given out only behind the end of its commit.
func TestSettles(t *testing.T) {
	for _, refuse := range []bool{false, true} {
		d := newDisk(t, 2+20*span, size)
		must(t, "14.1: Format", catalog.Format(d, span, 1))
		c := open(t, d)
		for i := range 12 {
			add(t, c, "a", fmt.Sprint(i, string(make([]byte, 80))))
		}
		log := c.Blobs().Log()
		live, e := c.Live()
		must(t, "14.4: Live", e)
		before := viewOf(c)
		must(t, "6.8: Begin", c.Blobs().Begin())
		for _, a := range live {
			if p, _ := c.Blobs().Where(a); p.Seg == 0 {
				must(t, "6.6: Move", c.Blobs().Move(a))
			}
		}
		_, e = c.Blobs().Drop(0)
		must(t, "6.7: Drop", e)
		if refuse {
			answers(t, "14.9: Keep", c.Keep(0), api.ErrWindow)
			holds(t, "14.7: a freed segment is in use again", viewOf(c), before)
			continue
		}
		super, page := wanted(t, c.Super(), log.Tail(), c.Page())
		must(t, "14.9: Commit", c.Commit())
		committed(t, "a segment was freed", c, super, page)
		if super.Page.Seg == 0 || log.Tail().Held[0] || log.Tail().Marks[0] != (api.Mark{}) {
			t.Errorf("14.6: the page is in %v, the log is %v", super.Page, log.Tail())
		}
		must(t, "5.3: Next", log.Next())
		if log.Tail().Current != 0 {
			t.Error("14.6: the freed segment is not given out")
		}
	}
}

// TestLast: the last numbers of versions, superblocks and serials.
func TestLast(t *testing.T) {
	d := wide(t, 3)
	grown(t, d, 3)
	refused := func(what string, c *catalog.Catalog, adds, keeps api.Errno) {
		t.Helper()
		before := viewOf(c)
		reopened := viewOf(open(t, c.Blobs().Log().Disk()))
		if v, e := c.Add(c.Latest().Tree); v != (api.Version{}) || e != adds {
			t.Errorf("14.8: %s: Add = %v, %d, want %d", what, v, e, adds)
		}
		holds(t, "14.11: "+what, viewOf(c), before)
		holds(t, "14.11: "+what+", reopened", viewOf(open(t, c.Blobs().Log().Disk())), reopened)
		if keeps != api.OK {
			answers(t, "14.9: "+what+": Keep", c.Keep(2), keeps)
			answers(t, "14.9: "+what+": Commit", c.Commit(), keeps)
			holds(t, "14.11: "+what, viewOf(c), before)
			holds(t, "14.11: "+what+", reopened", viewOf(open(t, c.Blobs().Log().Disk())), reopened)
		}
		if c.Dead() {
			t.Errorf("14.5: %s: dead", what)
		}
	}
	h := alone(t, d)
	ended(&h.page, last-2, 3)
	c := open(t, h.lay())
	for i := range uint64(2) {
		if v, e := c.Add(api.Tree{}); v.Number != last-1+i || e != api.OK {
			t.Fatalf("14.8: Add = %v, %d", v, e)
		}
	}
	if a := c.Page().Annal; a.Size != last+1 || len(a.Peaks) != 2 {
		t.Errorf("14.8: annals of %d leaves, %d peaks", a.Size, len(a.Peaks))
	}
	refused("the last version", c, api.ErrLast, api.OK)
	must(t, "14.9: Keep", c.Keep(1))
	must(t, "14.9: Commit", c.Commit())
	refused("the last version", c, api.ErrLast, api.OK)

	h = alone(t, d)
	h.super.Seq = last - 1
	c = open(t, h.lay())
	add(t, c, "x", "y")
	if c.Super().Seq != last {
		t.Errorf("14.6: %v", c.Super())
	}
	refused("the last Seq", c, api.ErrLast, api.ErrLast)
	refused("the last Seq", open(t, c.Blobs().Log().Disk()), api.ErrLast, api.ErrLast)

	h = alone(t, storeDisk(t, 2))
	h.page.Serial = last
	c = open(t, h.lay())
	for c.Commit() == api.OK { // up to the segment's end
	}
	refused("the last serial", c, api.ErrLast, api.ErrLast)
}

// TestPageTooLong: a state whose page fits into no segment cannot be committed.
func TestPageTooLong(t *testing.T) {
	d := newDisk(t, 2+20*2, 128) // segments of 256 bytes, in which a page with two versions has no room
	must(t, "14.1: Format", catalog.Format(d, 2, 2))
	c := open(t, d)
	before := viewOf(c)
	if v, e := c.Add(c.Latest().Tree); v != (api.Version{}) || e != api.ErrFull {
		t.Errorf("14.6: Add = %v, %d", v, e)
	}
	holds(t, "14.11: a page that is longer than a segment", viewOf(c), before)
	holds(t, "14.11: a page that is longer than a segment", viewOf(open(t, d)), before)
	must(t, "14.9: Keep", c.Keep(1))
	if v, e := c.Add(c.Latest().Tree); v.Number != 1 || e != api.OK {
		t.Errorf("14.8: Add = %v, %d", v, e)
	}
}

// TestSameCalls: what a store is hangs on the calls alone.
func TestSameCalls(t *testing.T) {
	var images [][]byte
	for range 2 {
		d := storeDisk(t, 6)
		c := open(t, d)
		must(t, "14.9: Keep", c.Keep(2))
		must(t, "14.9: Commit", c.Commit())
		images = append(images, d.Image())
	}
	if !bytes.Equal(images[0], images[1]) {
		t.Error("0.3: two disks with the same calls differ")
	}
	if segment.Count(sectors, span) != segments {
		t.Error("5.1: another count")
	}
}

// TestOrderOfSteps: the annals grow ahead of the commit, and the commit asks for its Seq ahead of its page.
func TestOrderOfSteps(t *testing.T) {
	base := storeDisk(t, 2)
	for _, seq := range []bool{false, true} {
		for _, number := range []bool{false, true} {
			h := handOf(t, base)
			if seq {
				h.super.Seq = last
			}
			if number {
				ended(&h.page, last, 1)
			}
			want := func(add bool) api.Errno {
				switch {
				case add && number:
					return api.ErrLast
				case !add && seq:
					return api.ErrLast
				}
				return api.ErrFull
			}
			c := open(t, h.lay())
			before := viewOf(c)
			full := func() { // a change in which no frame has room
				must(t, "6.8: Begin", c.Blobs().Begin())
				for _, n := range []int{900, 100, 10, 0} {
					e := api.OK
					for i := 0; e == api.OK; i++ {
						_, e = c.Blobs().Put(api.KindValue, bytes.Repeat([]byte{byte(i)}, n+i%256/64))
						if e == api.OK && i > 3000 {
							break
						}
					}
				}
			}
			what := fmt.Sprintf("14.7: the last Seq %v, the last number %v, a full disk", seq, number)
			full()
			_, e := c.Add(c.Latest().Tree)
			answers(t, what+": Add", e, want(true))
			holds(t, what, viewOf(c), before)
			full()
			answers(t, what+": Commit", c.Commit(), want(false))
			holds(t, what, viewOf(c), before)
			full()
			answers(t, what+": Keep(0)", c.Keep(0), api.ErrWindow)
			holds(t, what, viewOf(c), before)
		}
	}
}
