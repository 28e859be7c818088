package compact_test

import (
	"fmt"
	"slices"
	"testing"

	"witness/api"
	"witness/catalog"
	"witness/compact"
	"witness/disk"
)

// run runs a layout's store, and the model one that is laid alike: they must do the same to the last byte.
func (l layout) run(t *testing.T) (*catalog.Catalog, int, api.Errno) {
	t.Helper()
	d, c := l.open(t)
	x, m := l.open(t)
	n, e := compact.Run(c)
	k, f := modelRun(m)
	if n != k || e != f {
		t.Errorf("15.3: %v: Run = %d, %d, want %d, %d", l, n, e, k, f)
	}
	same(t, fmt.Sprintf("15.3: %v", l), viewOf(c), viewOf(m))
	if whatDiskHas(d) != whatDiskHas(x) {
		t.Errorf("15.3: %v: the disk has other bytes, or was written otherwise", l)
	}
	return c, n, e
}

// TestTries: all victims, half of them, half of that: the first of them, whatever more might be moved.
func TestTries(t *testing.T) {
	const whole, live = 4096, 1330 // three frames in a segment, or two and the page
	for _, row := range []struct {
		victims, free, want int
	}{
		{1, 1, 1}, {2, 1, 2}, {3, 1, 1}, {4, 1, 2}, {5, 1, 2}, {6, 1, 1}, {7, 1, 1}, {8, 1, 2}, {9, 1, 2}, {12, 1, 1},
		{4, 2, 4}, {5, 2, 5}, {6, 2, 3}, {7, 2, 3}, {8, 2, 4}, {10, 2, 5}, {11, 2, 5}, {12, 2, 3}, {13, 2, 3},
		{8, 3, 8}, {9, 3, 4}, {17, 3, 8}, {1, 0, 0}, {2, 0, 0}, {7, 0, 0},
	} {
		for _, backwards := range []bool{false, true} {
			segs := halves(row.victims, live)
			if backwards {
				slices.Reverse(segs)
			}
			l := layout{whole: whole, segs: segs, versions: 1, free: row.free}
			_, before := l.open(t)
			victims, _ := compact.Victims(before)
			was, facts := viewOf(before), factsOf(t, before)
			if len(victims) != row.victims || row.victims > 1 && (victims[0] == 0) == backwards {
				t.Fatalf("15.2: Victims = %v", victims)
			}
			c, n, e := l.run(t)
			what := fmt.Sprintf("%d victims, %d free, backwards %v", row.victims, row.free, backwards)
			want := api.OK
			if row.want == 0 {
				want = api.ErrFull
				same(t, "15.3: "+what, viewOf(c), was)
				same(t, "15.3: opened again: "+what, viewOf(open(t, c.Blobs().Log().Disk())), was)
			}
			if n != row.want || e != want {
				t.Errorf("15.3: %s: Run = %d, %d, want %d, %d", what, n, e, row.want, want)
			}
			marks := c.Blobs().Log().Tail().Marks
			for i, seg := range victims {
				if m := marks[seg]; i < n && m != (api.Mark{}) || i >= n && m != was.Tail.Marks[seg] {
					t.Errorf("15.4: %s: the victim %d has the mark %v", what, i, m)
				}
			}
			stays(t, what, c, facts)
			if free(c) > 0 && heldBack(t, c) != 1 {
				t.Errorf("15.3: %s: %d segments are held back", what, heldBack(t, c))
			}
		}
	}
}

// TestTriesOfUnlike: the first victims have little that is live, the others much: what fits is told by the bytes, not by the number.
func TestTriesOfUnlike(t *testing.T) {
	r := noise(3)
	met := map[string]int{}
	for range 60 {
		var segs [][]int
		for range 1 + r.IntN(9) {
			var seg []int
			for range 1 + r.IntN(4) {
				seg = append(seg, 20+r.IntN(200), -20-r.IntN(300))
			}
			segs = append(segs, seg)
		}
		l := layout{whole: 2048, segs: segs, versions: 1 + r.IntN(3), free: r.IntN(3), spare: r.IntN(600)}
		_, c := l.open(t)
		v, _ := compact.Victims(c)
		_, n, e := l.run(t)
		switch {
		case n == len(v) && n > 0:
			met["all"]++
		case n > 0:
			met["some"]++
		default:
			met[e.Error()]++
		}
	}
	if met["all"] < 5 || met["some"] < 5 || met[api.ErrFull.Error()] < 5 || met[api.ErrVictim.Error()] < 1 {
		t.Errorf("15.3: %v", met)
	}
}

// written are the blobs whose frames lie behind an older tail, in the order in which they were appended.
func written(c *catalog.Catalog, old api.Tail) []api.Addr {
	now := c.Blobs().Log().Tail()
	var segs []int
	for seg, m := range now.Marks {
		if m.Serial > old.Serial || seg == old.Current {
			segs = append(segs, seg)
		}
	}
	slices.SortFunc(segs, func(a, b int) int { return int(now.Marks[a].Serial) - int(now.Marks[b].Serial) })
	var l []api.Addr
	for _, seg := range segs {
		for place, f := range c.Blobs().Log().Frames(seg) {
			if f.Kind != api.KindPage && (seg != old.Current || place.At >= old.Marks[seg].Used) {
				l = append(l, api.Addr{Sum: sumOf(f.Kind, string(f.Body[1:])), Nth: f.Body[0]})
			}
		}
	}
	return l
}

// TestOrder: victims in their order, what is live in each in the order of its frames; nothing else is written, and nothing but what is live is there.
func TestOrder(t *testing.T) {
	segs := [][]int{{40, 41, -300, 42, 43, 44, 45}, {50, -500, 51, 52}, {-600}, {60, 61, 62, 63, -300}, {700, -100}}
	d, c := layout{whole: 1024, segs: segs, versions: 1, free: 3, spare: 130}.open(t)
	b := c.Blobs()
	_, e := b.Put(api.KindValue, []byte("needed by nobody"))
	must(t, "6.3: Put", e)
	hasVictims(t, "the order", c, 2, 1, 3, 0)
	var want []api.Addr
	for _, seg := range []int{2, 1, 3, 0} {
		l, _ := liveFrames(c, seg)
		want = append(want, l...)
	}
	if len(want) != 13 || slices.IsSortedFunc(want, func(a, b api.Addr) int { return slices.Compare(a.Sum[:], b.Sum[:]) }) {
		t.Fatalf("15.3: %d frames are to be moved, in the order of addresses", len(want))
	}
	tail := b.Log().Tail()
	live, _ := c.Live()
	runs(t, "the order", c, 4, api.OK)
	if got := written(c, tail); !slices.Equal(got, want) {
		t.Errorf("15.3: moved were %v\nwant %v", got, want)
	}
	for _, x := range []*catalog.Catalog{c, open(t, d)} {
		now, e := x.Live()
		if !slices.Equal(now, live) || e != api.OK || x.Blobs().Len() != len(live) {
			t.Errorf("15.3: %d blobs are there, of which %d are live, want %d", x.Blobs().Len(), len(now), len(live))
		}
	}
	if b.Log().Tail().Serial == tail.Serial {
		t.Error("15.3: no segment was begun")
	}
	answers(t, "15.3: the change has ended", b.End(), api.ErrOpen)
	if slices.Contains(b.Log().Tail().Held, true) {
		t.Error("15.3: a segment is held still")
	}
}

// TestNothingLive: victims without any live blob need room for the page alone.
func TestNothingLive(t *testing.T) {
	segs := [][]int{{-900}, {}, {-16, -17}}
	with := func(spare, free int) layout {
		return layout{whole: 1024, segs: segs, versions: 1, free: free, spare: spare}
	}
	c, n, e := with(500, 0).run(t)
	page := c.Super().Page.Len
	if n != 3 || e != api.OK || c.Super().Page.At != 1024-500 {
		t.Fatalf("15.3: Run = %d, %d, the page at %v", n, e, c.Super().Page)
	}
	for _, row := range []struct {
		spare, free, behind int
		want                api.Errno
	}{{0, 0, 0, api.ErrFull}, {page - 1, 0, 0, api.ErrFull}, {page, 0, 3, api.OK}, {page - 1, 1, 3, api.OK}, {page + 2, 1, 4, api.OK}} { // a mark {0, 0} has two bytes
		c, n, e := with(row.spare, row.free).run(t)
		if e != row.want || e == api.OK && n != 3 || free(c) != row.behind {
			t.Errorf("15.3: %+v: Run = %d, %d, %d segments are free", row, n, e, free(c))
		}
	}
}

// cause is a reason for a refusal.
type cause struct {
	name string
	want api.Errno
	do   func(t *testing.T, d *disk.Disk, c *catalog.Catalog)
}

// causes are the reasons, in their order; that there is no victim is the layout's.
func causes() []cause {
	return []cause{
		{"dead", api.ErrDead, func(t *testing.T, d *disk.Disk, c *catalog.Catalog) { back(d) }},
		{"damage", api.ErrCheck, func(t *testing.T, d *disk.Disk, c *catalog.Catalog) {
			l, _ := liveFrames(c, 1)
			spoil(t, c, l[0])
		}},
		{"no victim", api.ErrVictim, nil},
		{"a change", api.ErrOpen, func(t *testing.T, d *disk.Disk, c *catalog.Catalog) {
			must(t, "6.8: Begin", c.Blobs().Begin())
			_, e := c.Blobs().Put(api.KindValue, []byte("put in the change"))
			must(t, "6.3: Put", e)
		}},
	}
}

// TestErrors: of all reasons that apply the first is the answer; nothing has changed, and a change that has begun goes on.
func TestErrors(t *testing.T) {
	all := causes()
	for set := 1; set < 1<<len(all); set++ {
		applies := func(i int) bool { return set&(1<<i) != 0 }
		segs := [][]int{{100, -300}, {600}}
		if applies(2) {
			segs[0] = []int{400}
		}
		d, c := layout{whole: 1024, segs: segs, versions: 2, free: 3, spare: 100}.open(t)
		want, what := api.OK, ""
		for _, i := range []int{3, 1, 2, 0} { // what is spoilt is found by its place, and the crash loses what was put
			if applies(i) && all[i].do != nil {
				all[i].do(t, d, c)
			}
		}
		for i := range all {
			if applies(i) {
				what += all[i].name + " "
				if want == api.OK {
					want = all[i].want
				}
			}
		}
		for _, reserve := range []int{0, 2} {
			c.Blobs().Log().Reserve(reserve)
			untouched(t, "15.3: "+what, c, func() { runs(t, what, c, 0, want) })
			if n := heldBack(t, c); n != 1 {
				t.Errorf("15.3: %s: %d segments are held back", what, n)
			}
		}
		change := api.ErrOpen
		if applies(3) {
			change = api.OK
			if _, there := c.Blobs().Find(api.KindValue, []byte("put in the change")); !there && !applies(0) {
				t.Errorf("15.3: %s: the change was undone", what)
			}
		}
		answers(t, "15.3: "+what+": the change", c.Blobs().Undo(), change)
	}
}

// TestLast: an error of a step that is not ErrFull is the answer; no other try is made, and nothing has changed.
func TestLast(t *testing.T) {
	const last = uint64(api.MaxNumber)
	for name, l := range map[string]layout{
		"the last Seq":    {seq: last},
		"the last serial": {serial: last},
		"both":            {seq: last, serial: last},
	} {
		l.whole, l.segs, l.versions, l.free = 1024, halves(4, 100), 1, 2
		_, c := l.open(t)
		was := viewOf(c)
		c, n, e := l.run(t)
		if n != 0 || e != api.ErrLast {
			t.Errorf("15.3: %s: Run = %d, %d", name, n, e)
		}
		same(t, "15.3: "+name, viewOf(c), was)
		same(t, "15.3: opened again: "+name, viewOf(open(t, c.Blobs().Log().Disk())), was)
		answers(t, "15.3: "+name+": the change", c.Blobs().Undo(), api.ErrOpen)
	}
	for name, l := range map[string]layout{
		"the last Seq but one":             {seq: last - 1},
		"the last serial but one":          {serial: last - 1},
		"the last serial, and room for it": {serial: last, spare: 620},
	} {
		l.whole, l.segs, l.versions, l.free = 1024, halves(4, 100), 1, 2
		if _, n, e := l.run(t); n != 4 || e != api.OK {
			t.Errorf("15.3: %s: Run = %d, %d", name, n, e)
		}
	}
}

// TestReserve: within Run no free segment is held back, whatever was; in the end one is, whatever the answer was.
func TestReserve(t *testing.T) {
	for _, reserve := range []int{-1, 0, 1, 2, 9} {
		l := layout{whole: 1024, segs: [][]int{{450, -500}, {450, -490}, {100, -700}}, versions: 1, free: 1}
		_, c := l.open(t)
		c.Blobs().Log().Reserve(reserve)
		runs(t, fmt.Sprint("reserve ", reserve), c, 1, api.OK)
		if n := heldBack(t, c); n != 1 {
			t.Errorf("15.3: reserve %d: behind OK %d segments are held back", reserve, n)
		}
		for fuse := range 6 {
			d, c := l.open(t)
			c.Blobs().Log().Reserve(reserve)
			d.Fuse(fuse)
			runs(t, "the power gone", c, 0, api.ErrPower)
			answers(t, "5.3: Next, with one free segment", c.Blobs().Log().Next(), api.ErrFull)
			back(d)
			answers(t, "5.3: Next, with one free segment", c.Blobs().Log().Next(), api.ErrFull)
		}
	}
	_, c := layout{whole: 1024, segs: halves(2, 450), versions: 6, free: 1}.open(t)
	c.Blobs().Log().Reserve(0)
	runs(t, "the page has no room", c, 0, api.ErrFull)
	answers(t, "15.3: behind ErrFull one segment is held back", c.Blobs().Log().Next(), api.ErrFull)
}

// TestHeld: a segment that was given up and not let go yet is no room.
func TestHeld(t *testing.T) {
	_, c := layout{whole: 1024, segs: [][]int{{300, -500}, {-600}}, versions: 1, free: 0}.open(t)
	_, e := c.Blobs().Drop(1)
	must(t, "6.7: Drop", e)
	was := viewOf(c)
	runs(t, "no segment but one that is held", c, 0, api.ErrFull)
	same(t, "15.3: no segment but one that is held", viewOf(c), was)
}
