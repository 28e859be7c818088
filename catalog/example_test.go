package catalog_test

import (
	"testing"

	"witness/api"
	"witness/catalog"
	"witness/disk"
	"witness/skip"
)

// TestExamples holds the chapter's examples, one behind the other.
func TestExamples(t *testing.T) {
	d := newDisk(t, 66, 128)
	noOpen(t, "example 1", d, api.ErrMagic)
	for _, row := range []struct {
		span, window int
		want         api.Errno
	}{{1, 3, api.ErrSpan}, {33, 3, api.ErrSize}, {8, 0, api.ErrWindow}, {8, 65, api.ErrWindow}, {1025, 0, api.ErrSpan}} {
		answers(t, "14.1: example 1", catalog.Format(d, row.span, row.window), row.want)
	}
	must(t, "14.1: example 2", catalog.Format(d, 8, 3))
	c := open(t, d)
	s, p := c.Super(), c.Page()
	if s.Seq != 1 || s.Size != 128 || s.Sectors != 66 || s.Span != 8 || c.Latest().Number != 0 || c.Latest().Tree.Count != 0 {
		t.Errorf("14.2: example 2: %v, %v", s, c.Latest())
	}
	if p.Last != 0 || p.Window != 3 || p.Serial != 1 || len(p.Marks) != 8 || p.Marks[0].Serial != 1 || len(p.Versions) != 1 || p.Annal.Size != 1 || len(p.Annal.Peaks) != 1 {
		t.Errorf("14.2: example 2: %v", p)
	}
	if v, e := c.Version(0); v != c.Latest() || e != api.OK {
		t.Errorf("14.3: example 3: %v, %d", v, e)
	}
	if _, e := c.Version(1); e != api.ErrVersion {
		t.Errorf("14.3: example 3: %d", e)
	}
	if l, e := c.Live(); len(l) != 2 || e != api.OK {
		t.Errorf("14.4: example 3: %d addresses, %d", len(l), e)
	}
	tree := put(t, c, "a", "1")
	for n := uint64(1); n <= 3; n++ {
		v, e := c.Add(tree)
		if v != (api.Version{Number: n, Tree: tree}) || e != api.OK || c.Latest() != v || c.Super().Seq != n+1 {
			t.Errorf("14.8: example 4: %v, %d", v, e)
		}
		if b, _ := d.Read(int(n+1) % 2); string(b) != string(superBytes(c.Super(), 128)) {
			t.Errorf("14.6: example 4: Seq %d is in another sector", n+1)
		}
	}
	if p := c.Page(); len(p.Versions) != 3 || p.Versions[0].Number != 1 || p.Annal.Size != 4 {
		t.Errorf("14.8: example 4: %v", p)
	}
	if _, e := c.Version(0); e != api.ErrVersion {
		t.Errorf("14.3: example 4: %d", e)
	}
	answers(t, "14.9: example 5", c.Keep(1), api.OK)
	if p := c.Page(); len(p.Versions) != 1 || p.Versions[0].Number != 3 {
		t.Errorf("14.9: example 5: %v", p)
	}
	answers(t, "14.9: example 5", c.Keep(0), api.ErrWindow)
	seq := c.Super().Seq
	answers(t, "14.9: example 5", c.Commit(), api.OK)
	if c.Super().Seq != seq+1 || c.Page().Last != 3 {
		t.Errorf("14.9: example 5: %v", c.Super())
	}
	powerExamples(t, d, c)
}

// powerExamples are the examples 6 to 10.
func powerExamples(t *testing.T, d *disk.Disk, c *catalog.Catalog) {
	before := viewOf(open(t, d))
	latest := c.Latest()
	d.Fuse(0)
	_, e := c.Add(latest.Tree)
	answers(t, "14.7: example 6", e, api.ErrPower)
	_, e = c.Add(latest.Tree)
	answers(t, "14.7: example 6", e, api.ErrDead)
	answers(t, "14.7: example 6", c.Keep(0), api.ErrDead)
	if !c.Dead() || c.Latest() != latest {
		t.Errorf("14.5: example 6: dead %v, %v", c.Dead(), c.Latest())
	}
	back(d)
	c = open(t, d)
	holds(t, "14.10: example 6", viewOf(c), before)

	addOf := func(d *disk.Disk) api.Errno {
		c := open(t, d)
		_, e := c.Add(c.Latest().Tree)
		return e
	}
	x := d.Copy()
	x.Fuse(len(eventsOf(t, d, addOf)) - 1)
	answers(t, "14.7: example 7", addOf(x), api.ErrPower)
	for _, row := range []struct {
		crash api.Crash
		last  uint64
	}{{api.Crash{Keep: []bool{true}, Torn: -1}, 4}, {api.Crash{Torn: -1}, 3}, {api.Crash{Torn: 0, At: 20}, 3}} {
		y := x.Copy()
		y.Crash(row.crash)
		if n := open(t, y).Latest().Number; n != row.last {
			t.Errorf("14.10: example 7: %v: the newest is %d", row.crash, n)
		}
	}
	back(d)
	if !c.Dead() {
		t.Error("14.5: example 8")
	}
	c = open(t, d)
	tree := c.Latest().Tree
	must(t, "6.8: Begin", c.Blobs().Begin())
	if _, e := c.Blobs().Put(api.KindValue, make([]byte, 2000)); e != api.ErrFull {
		t.Errorf("6.3: example 9: %d", e)
	}
	must(t, "6.8: Undo", c.Blobs().Undo())
	must(t, "14.11: example 9", skip.Check(c.Blobs(), tree))
	if c.Latest().Tree != tree {
		t.Error("14.11: example 9")
	}

	d = formatted(t, 3)
	c = open(t, d)
	before = viewOf(c)
	y := d.Copy()
	must(t, "14.1: example 10", catalog.Format(d, 8, 5))
	n := open(t, d)
	if n.Super().Seq != 2 || n.Page().Window != 5 || len(n.Page().Versions) != 1 || n.Latest().Number != 0 || !c.Dead() {
		t.Errorf("14.1: example 10: %v, dead %v", n.Super(), c.Dead())
	}
	y.Fuse(0)
	answers(t, "14.1: example 10", catalog.Format(y, 8, 5), api.ErrPower)
	back(y)
	holds(t, "14.1: example 10", viewOf(open(t, y)), before)
}
