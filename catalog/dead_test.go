package catalog_test

import (
	"fmt"
	"testing"

	"witness/api"
	"witness/catalog"
	"witness/disk"
)

func off(d *disk.Disk) {
	d.Fuse(0)
	d.Flush()
}

func back(d *disk.Disk) { d.Crash(api.Crash{Torn: -1}) }

// holdingSlot is the sector of the superblock that holds.
func holdingSlot(d *disk.Disk) int {
	s, _ := modelSuper(d)
	return int(s.Seq % 2)
}

// TestDead: each cause, with the power on, gone, and back.
func TestDead(t *testing.T) {
	none := func(d *disk.Disk, c *catalog.Catalog) {}
	rot := func(slot func(d *disk.Disk) int) func(d *disk.Disk, c *catalog.Catalog) {
		return func(d *disk.Disk, c *catalog.Catalog) { d.Rot(slot(d), 20, 1) }
	}
	other := func(d *disk.Disk) int { return 1 - holdingSlot(d) }
	for _, row := range []struct {
		name     string
		do       func(d *disk.Disk, c *catalog.Catalog)
		on, gone bool // whether it is dead then, with the power on, and gone
		versions int
	}{
		{name: "nothing", do: none, versions: 2},
		{name: "reading", do: func(d *disk.Disk, c *catalog.Catalog) { c.Live(); catalog.Open(d) }, versions: 2},
		{name: "its own commit", do: func(d *disk.Disk, c *catalog.Catalog) { c.Commit() }, versions: 2},
		{name: "its refused commits", do: func(d *disk.Disk, c *catalog.Catalog) { c.Keep(0); c.Keep(65) }, versions: 2},
		{name: "a crash", do: func(d *disk.Disk, c *catalog.Catalog) { back(d) }, on: true, gone: true, versions: 2},
		{name: "a commit that is refused at once", do: func(d *disk.Disk, c *catalog.Catalog) { d.Fuse(0); c.Commit() }, gone: true, versions: 2},
		{name: "a commit that is refused at the flush", do: func(d *disk.Disk, c *catalog.Catalog) { d.Fuse(len(eventsOf(t, d, commitOf)) - 1); c.Commit() }, gone: true, versions: 2},
		{name: "a commit with the power gone", do: func(d *disk.Disk, c *catalog.Catalog) { off(d); c.Keep(0) }, gone: true, versions: 2},
		{name: "the power gone", do: func(d *disk.Disk, c *catalog.Catalog) { off(d) }, versions: 2},
		{name: "a commit of another", do: func(d *disk.Disk, c *catalog.Catalog) { open(t, d).Commit() }, on: true, versions: 2},
		{name: "a Format", do: func(d *disk.Disk, c *catalog.Catalog) { catalog.Format(d, span, 3) }, on: true, versions: 2},
		{name: "a Format that ended without a store", do: func(d *disk.Disk, c *catalog.Catalog) { wipe(d) }, on: true, versions: 2},
		{name: "another store with its Seq", do: func(d *disk.Disk, c *catalog.Catalog) { wipe(d); catalog.Format(d, 4, 3) }, on: true, versions: 0},
		{name: "another page with its Seq", do: func(d *disk.Disk, c *catalog.Catalog) {
			s := c.Super()
			s.Page.At++
			d.Write(ownSlot(c), superBytes(s, size))
			d.Flush()
		}, on: true, versions: 2},
		{name: "the slot that holds is spoilt", do: rot(holdingSlot), on: true, versions: 2},
		{name: "the only slot is spoilt", do: rot(holdingSlot), on: true, versions: 0},
		{name: "the other slot is spoilt", do: rot(other), versions: 2},
		{name: "a refused Format", do: func(d *disk.Disk, c *catalog.Catalog) { catalog.Format(d, 1, 3); catalog.Format(d, span, 0) }, versions: 2},
	} {
		d := storeDisk(t, row.versions)
		c := open(t, d)
		row.do(d, c)
		wasOff := d.Off()
		if got := c.Dead(); !wasOff && got != row.on || wasOff && got != row.gone {
			t.Errorf("14.5: %s: Dead = %v, the power gone: %v", row.name, got, wasOff)
		}
		off(d)
		unwritten(t, "14.5", d, func() {
			if got := c.Dead(); got != row.gone {
				t.Errorf("14.5: %s, and the power is gone: Dead = %v", row.name, got)
			}
		})
		back(d)
		if !c.Dead() {
			t.Errorf("14.5: %s, and a crash: not dead", row.name)
		}
	}
}

// wipe makes both slots zeros.
func wipe(d *disk.Disk) {
	d.Write(0, make([]byte, size))
	d.Write(1, make([]byte, size))
	d.Flush()
}

// commitOf opens a disk and commits.
func commitOf(d *disk.Disk) api.Errno {
	c, e := catalog.Open(d)
	if e != api.OK {
		return e
	}
	return c.Commit()
}

// TestDeadWhileItLasts: a superblock that is not its own kills a catalog only as long as it holds.
func TestDeadWhileItLasts(t *testing.T) {
	d := storeDisk(t, 2)
	c := open(t, d)
	before := viewOf(c)
	slot := holdingSlot(d)
	d.Rot(slot, 20, 1)
	answers(t, "14.7: with a spoilt superblock", c.Commit(), api.ErrDead)
	d.Rot(slot, 20, 1)
	if c.Dead() {
		t.Error("14.5: its own superblock holds again, and it is dead")
	}
	holds(t, "14.7: behind ErrDead", viewOf(c), before)
	answers(t, "14.7: its own superblock holds again", c.Commit(), api.OK)
}

// TestDeadTells: what a dead catalog tells is its last commit, and it writes nothing.
func TestDeadTells(t *testing.T) {
	for name, kill := range map[string]func(d *disk.Disk){
		"a crash":   back,
		"a commit":  func(d *disk.Disk) { must(t, "14.9: Commit", open(t, d).Keep(2)) },
		"a version": func(d *disk.Disk) { add(t, open(t, d), "z", "z") },
		"a Format":  func(d *disk.Disk) { must(t, "14.1: Format", catalog.Format(d, span, 1)) },
	} {
		d := storeDisk(t, 3)
		c := open(t, d)
		b := c.Blobs()
		add(t, c, "d", "d")
		want := viewOf(c)
		kill(d)
		tree := c.Latest().Tree
		for range 2 {
			unwritten(t, "14.7: "+name, d, func() {
				if v, e := c.Add(tree); v != (api.Version{}) || e != api.ErrDead {
					t.Errorf("14.7: %s: Add = %v, %d", name, v, e)
				}
				answers(t, "14.7: "+name+": Keep", c.Keep(1), api.ErrDead)
				answers(t, "14.7: "+name+": Keep(0)", c.Keep(0), api.ErrDead)
				answers(t, "14.7: "+name+": Commit", c.Commit(), api.ErrDead)
			})
			answers(t, "14.7: "+name+": the change is undone", b.Begin(), api.OK)
			answers(t, "14.7: "+name+": the change is undone", b.Undo(), api.OK)
		}
		got := viewOf(c)
		if name == "a Format" { // what the blobs hold was written over
			got.Frames, got.Live, got.LiveErr = want.Frames, want.Live, want.LiveErr
		}
		holds(t, "14.3: "+name, got, want)
		if c.Blobs() != b || !c.Dead() {
			t.Errorf("14.3: %s: other blobs, or not dead", name)
		}
	}
}

// TestManyOpen: of several catalogs on one disk only the one that committed last goes on.
func TestManyOpen(t *testing.T) {
	d := wide(t, 3)
	cs := []*catalog.Catalog{open(t, d), open(t, d), open(t, d)}
	r := noise(3)
	for round := range 60 {
		winner := r.IntN(len(cs))
		for i, c := range cs {
			if c.Super() != cs[winner].Super() {
				cs[i] = open(t, d) // it was dead
			}
		}
		for i, c := range cs {
			if c.Dead() {
				t.Fatalf("14.5: round %d: %d is dead", round, i)
			}
		}
		c := cs[winner]
		if round%3 == 0 {
			must(t, "14.9: Commit", c.Commit())
		} else {
			add(t, c, fmt.Sprint(round), "")
		}
		for i, x := range cs {
			if x.Dead() != (i != winner) {
				t.Errorf("14.5: round %d: %d committed, %d is dead: %v", round, winner, i, x.Dead())
			}
			if i == winner {
				continue
			}
			before := viewOf(x)
			unwritten(t, "14.7: one of several", d, func() {
				answers(t, "14.7: Commit", x.Commit(), api.ErrDead)
				answers(t, "14.7: Keep", x.Keep(2), api.ErrDead)
				_, e := x.Add(x.Latest().Tree)
				answers(t, "14.7: Add", e, api.ErrDead)
			})
			holds(t, "14.3: one of several", viewOf(x), before)
		}
		must(t, "14.9: the winner goes on", c.Commit())
		if r.IntN(2) == 0 {
			cs[winner] = open(t, d)
		}
		for i := range cs {
			if i != winner {
				cs[i] = open(t, d)
			}
		}
	}
}
