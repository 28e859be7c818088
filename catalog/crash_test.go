package catalog_test

import (
	"bytes"
	"fmt"
	"maps"
	"math/rand/v2"
	"slices"
	"strings"
	"testing"

	"witness/annals"
	"witness/api"
	"witness/catalog"
	"witness/disk"
	"witness/node"
	"witness/skip"
)

// tornAt are bytes at which a write may be torn: those of a superblock's fields, of a segment's header, and their neighbours.
var tornAt = []int{-1, 0, 1, 7, 8, 9, 12, 15, 16, 17, 20, 23, 31, 32, 35, 36, 39, 40, 43, 44, 45, 50, 51, 52, 53, 79, 127, 128, 129}

// crashesOf are crashes of a cache with so many writes: all that keep or lose whole writes, or many of them; and such that tear one besides.
func crashesOf(pending int, r *rand.Rand) []api.Crash {
	var l []api.Crash
	const all = 5
	for i := range 1 << min(pending, all) {
		keep := make([]bool, pending)
		for j := range keep {
			keep[j] = i&(1<<(j%all)) != 0
			if pending > all && i > 1 && i < 1<<all-1 {
				keep[j] = r.IntN(2) == 0
			}
			if pending > all && i == 1<<all-1 {
				keep[j] = true
			}
		}
		l = append(l, api.Crash{Keep: keep, Torn: -1})
		if pending == 0 {
			continue
		}
		for _, at := range tornAt {
			if pending == 1 || r.IntN(16) == 0 {
				l = append(l, api.Crash{Keep: keep, Torn: r.IntN(pending), At: at})
			}
		}
	}
	return l
}

func TestCrashesAreMany(t *testing.T) {
	for pending, most := range []int{1, 60, 30, 40, 80, 150, 150} {
		if n := len(crashesOf(pending, noise(1))); n < min(most/3, 1<<pending) {
			t.Errorf("%d crashes of %d writes", n, pending)
		}
	}
}

// calls are commits of all sorts, each on a catalog that was just opened.
func calls(t *testing.T) map[string]func(c *catalog.Catalog) api.Errno {
	return map[string]func(c *catalog.Catalog) api.Errno{
		"Commit": func(c *catalog.Catalog) api.Errno { return c.Commit() },
		"Keep":   func(c *catalog.Catalog) api.Errno { return c.Keep(1) },
		"Add of the same tree": func(c *catalog.Catalog) api.Errno {
			_, e := c.Add(c.Latest().Tree)
			return e
		},
		"Add of a key": func(c *catalog.Catalog) api.Errno { return adds(c, "key", strings.Repeat("long ", 60)) },
		"room":         makesRoom,
	}
}

// adds commits the newest tree with a key more.
func adds(c *catalog.Catalog, key, value string) api.Errno {
	if e := c.Blobs().Begin(); e != api.OK {
		return e
	}
	tree, e := skip.Put(c.Blobs(), c.Latest().Tree, []byte(key), []byte(value))
	if e != api.OK {
		c.Blobs().Undo()
		return e
	}
	_, e = c.Add(tree)
	return e
}

// makesRoom moves all that is live out of the oldest segment but the current one, and frees it.
func makesRoom(c *catalog.Catalog) api.Errno {
	b := c.Blobs()
	b.Log().Reserve(0)
	defer b.Log().Reserve(1)
	live, e := c.Live()
	if e != api.OK {
		return e
	}
	if e := b.Begin(); e != api.OK {
		return e
	}
	b.Keep(live)
	victim, tail := -1, b.Log().Tail()
	for seg, m := range tail.Marks {
		if m.Serial != 0 && seg != tail.Current && (victim < 0 || m.Serial < tail.Marks[victim].Serial) {
			victim = seg
		}
	}
	if victim >= 0 {
		for _, a := range live {
			if p, _ := b.Where(a); p.Seg == victim {
				if e := b.Move(a); e != api.OK {
					b.Undo()
					return e
				}
			}
		}
		if _, e := b.Drop(victim); e != api.OK {
			b.Undo()
			return e
		}
	}
	return c.Commit()
}

// TestBroken: the power goes at each write and flush of each call, and any crash follows.
func TestBroken(t *testing.T) {
	for _, versions := range []int{0, 1, 4, 6} {
		for name, call := range calls(t) {
			t.Run(fmt.Sprintf("%s over %d versions", name, versions), func(t *testing.T) {
				t.Parallel()
				d := newDisk(t, 2+12*span, size)
				must(t, "14.1: Format", catalog.Format(d, span, 2))
				grown(t, d, versions)
				broken(t, d, call, name != "Add of a key" && name != "room")
			})
		}
	}
}

// broken holds a call against all crashes; commits tells that it does nothing but commit: of the others the caller's own Put may be refused.
func broken(t *testing.T, d *disk.Disk, call func(c *catalog.Catalog) api.Errno, commits bool) {
	met := map[string]int{}
	before := viewOf(open(t, d))
	on := func(d *disk.Disk) api.Errno { return call(open(t, d)) }
	done := d.Copy()
	must(t, "14.7", on(done))
	after := viewOf(open(t, done))
	n := len(eventsOf(t, d, on))
	for fuse := range n + 1 {
		x := d.Copy()
		c := open(t, x)
		x.Fuse(fuse)
		e := call(c)
		what := fmt.Sprintf("14.10: fuse %d of %d", fuse, n)
		want := api.ErrPower
		if fuse == n {
			want = api.OK
		}
		answers(t, what, e, want)
		if c.Super() != before.Super && e != api.OK || x.Off() != (e != api.OK) || commits && c.Dead() != (e != api.OK) {
			t.Errorf("%s: %v, the power is gone: %v, dead: %v", what, c.Super(), x.Off(), c.Dead())
		}
		if e != api.OK && (!slices.Equal(each(c.Blobs()), before.Blobs) || !sameTail(c.Blobs().Log().Tail(), before.Tail) || c.Blobs().Undo() != api.ErrOpen) {
			t.Errorf("%s: the change is not undone", what)
		}
		for _, crash := range crashesOf(len(x.Pending()), noise(uint64(fuse))) {
			y := x.Copy()
			y.Crash(crash)
			v := viewOf(open(t, y))
			switch {
			case same(v, before) && e != api.OK:
				met["before"]++
			case same(v, after) && fuse >= n-1:
				met["after"]++
			default:
				t.Fatalf("%s, %v: %s\nwant %s\nor   %s", what, crash, v.short(), before.short(), after.short())
			}
			holds(t, what+", opened again", viewOf(open(t, y)), v)
		}
		x.Crash(api.Crash{Torn: -1})
		answers(t, what+": it goes on", adds(open(t, x), "further", "on"), api.OK)
	}
	if met["before"] < 50 || met["after"] < 10 {
		t.Errorf("14.10: %v", met)
	}
}

// TestTornSuper: the superblock's own write, torn at each byte.
func TestTornSuper(t *testing.T) {
	for versions := range 4 {
		d := storeDisk(t, versions)
		before := viewOf(open(t, d))
		old, _ := d.Read(int(before.Super.Seq+1) % 2)
		done := d.Copy()
		must(t, "14.9: Commit", open(t, done).Commit())
		after := viewOf(open(t, done))
		young, _ := done.Read(int(after.Super.Seq) % 2)
		x := d.Copy()
		c := open(t, x)
		x.Fuse(len(eventsOf(t, d, commitOf)) - 1)
		answers(t, "14.9: Commit", c.Commit(), api.ErrPower)
		for at := range size + 1 {
			y := x.Copy()
			y.Crash(api.Crash{Torn: 0, At: at})
			want := before
			if bytes.Equal(young[at:], old[at:]) {
				want = after
			}
			holds(t, fmt.Sprintf("14.10: torn at %d", at), viewOf(open(t, y)), want)
		}
	}
}

// world is what a store has to be, told by maps.
type world struct {
	maps   []map[string]string // one a version, from 0 on
	kept   int                 // how many versions are kept
	window int
	seq    uint64
}

func (w world) next(m map[string]string, window int) world {
	w.seq++
	w.window = window
	if m != nil {
		w.maps = append(slices.Clone(w.maps), m)
		w.kept++
	}
	w.kept = min(w.kept, window)
	return w
}

// label is that of a version's map.
func (w world) label(t *testing.T, n int) api.Sum {
	t.Helper()
	var l []api.Entry
	for _, k := range slices.Sorted(maps.Keys(w.maps[n])) {
		l = append(l, api.Entry{Key: []byte(k), Value: []byte(w.maps[n][k])})
	}
	s, e := node.Root(l)
	must(t, "7.6: Root", e)
	return s
}

// told holds a catalog against the world.
func (w world) told(t *testing.T, what string, c *catalog.Catalog) {
	t.Helper()
	p := c.Page()
	if c.Super().Seq != w.seq || p.Window != w.window || len(p.Versions) != w.kept || int(p.Last) != len(w.maps)-1 {
		t.Fatalf("14.10: %s: Seq %d, window %d, %d versions up to %d, want %d, %d, %d, %d", what, c.Super().Seq, p.Window, len(p.Versions), p.Last, w.seq, w.window, w.kept, len(w.maps)-1)
	}
	var leaves []api.Leaf
	for n := range w.maps {
		leaves = append(leaves, api.Leaf{Version: uint64(n), Label: w.label(t, n)})
		if l, e := annals.Leaf(c.Blobs(), p.Annal, uint64(n)); l != leaves[n] || e != api.OK {
			t.Fatalf("14.12: %s: leaf %d is %v, %d", what, n, l, e)
		}
		v, e := c.Version(uint64(n))
		if n < len(w.maps)-w.kept {
			answers(t, "14.3: Version", e, api.ErrVersion)
			continue
		}
		if e != api.OK || v.Tree.Label != leaves[n].Label || v.Tree.Count != uint64(len(w.maps[n])) || skip.Check(c.Blobs(), v.Tree) != api.OK {
			t.Fatalf("14.11: %s: version %d is %v, %d", what, n, v, e)
		}
		for k, x := range w.maps[n] {
			if got, ok, e := skip.Get(c.Blobs(), v.Tree, []byte(k)); string(got) != x || !ok || e != api.OK {
				t.Fatalf("14.11: %s: version %d has %q at %q, %d", what, n, got, k, e)
			}
		}
	}
	if annals.Head(p.Annal) != annals.Over(leaves) || p.Annal.Size != uint64(len(leaves)) {
		t.Fatalf("14.12: %s: another head of the annals", what)
	}
	if l, e := c.Live(); e != api.OK || len(l) > c.Blobs().Len() {
		t.Fatalf("14.4: %s: %d addresses, %d", what, len(l), e)
	}
}

// step is something that is done to a store, and the world behind it.
func (w world) step(r *rand.Rand) (func(c *catalog.Catalog) api.Errno, world) {
	switch n := r.IntN(10); {
	case n < 6:
		m := maps.Clone(w.maps[len(w.maps)-1])
		key, value := fmt.Sprint(r.IntN(12)), strings.Repeat(fmt.Sprint(r.IntN(9)), r.IntN(200))
		m[key] = value
		return func(c *catalog.Catalog) api.Errno { return adds(c, key, value) }, w.next(m, w.window)
	case n < 7:
		window := 1 + r.IntN(3)
		return func(c *catalog.Catalog) api.Errno { return c.Keep(window) }, w.next(nil, window)
	case n < 8:
		return func(c *catalog.Catalog) api.Errno { return c.Commit() }, w.next(nil, w.window)
	}
	return makesRoom, w.next(nil, w.window)
}

// anyCrash keeps, loses and tears what it likes.
func anyCrash(d *disk.Disk, r *rand.Rand) api.Crash {
	c := api.Crash{Torn: -1}
	odds := r.IntN(5)
	for range d.Pending() {
		c.Keep = append(c.Keep, r.IntN(4) < odds)
	}
	if n := len(c.Keep); n > 0 && r.IntN(2) == 0 {
		c.Torn, c.At = r.IntN(n+1), r.IntN(size+2)
	}
	if n := len(c.Keep); n > 0 && r.IntN(3) == 0 {
		c.Torn = n - 1
	}
	return c
}

// TestCrashBehindCrash: a store through many commits, refusals and crashes, one behind the other.
func TestCrashBehindCrash(t *testing.T) {
	t.Parallel()
	met := map[string]int{}
	for seed := range uint64(60) {
		r := noise(seed)
		d := newDisk(t, 2+14*span, size)
		must(t, "14.1: Format", catalog.Format(d, span, 2))
		w := world{maps: []map[string]string{{}}, kept: 1, window: 2, seq: 1}
		c := open(t, d)
		for range 40 {
			do, after := w.step(r)
			if r.IntN(2) == 0 {
				d.Fuse(r.IntN(25))
			}
			e := do(c)
			what := fmt.Sprintf("seed %d, Seq %d: %d", seed, w.seq, e)
			switch e {
			case api.OK:
				met["committed"]++
				w = after
				if r.IntN(3) == 0 {
					met["a crash behind a commit"]++
					d.Crash(anyCrash(d, r))
					c = open(t, d)
				}
			case api.ErrFull:
				met["full"]++
				if d.Fuse(-1); makesRoom(c) == api.OK {
					w = w.next(nil, w.window)
				}
			case api.ErrPower:
				d.Crash(anyCrash(d, r))
				for r.IntN(3) == 0 { // again, ahead of any commit
					met["a crash behind a crash"]++
					if x, e := catalog.Open(d); e == api.OK {
						d.Fuse(r.IntN(12))
						x.Blobs().Begin()
						skip.Put(x.Blobs(), x.Latest().Tree, []byte("never"), make([]byte, 300))
					}
					d.Crash(anyCrash(d, r))
				}
				c = open(t, d)
				if c.Super().Seq == after.seq {
					met["done, though refused"]++
					w = after
				} else {
					met["undone"]++
				}
			default:
				t.Fatalf("14.10: %s", what)
			}
			d.Fuse(-1)
			w.told(t, what, c)
			if r.IntN(4) == 0 {
				before := viewOf(open(t, d))
				c = open(t, d)
				holds(t, "14.10: opened again", viewOf(c), before)
			}
		}
	}
	for what, least := range map[string]int{"committed": 500, "full": 10, "undone": 200, "done, though refused": 5, "a crash behind a crash": 50, "a crash behind a commit": 100} {
		if met[what] < least {
			t.Errorf("14.10: %v", met)
		}
	}
}
