package compact_test

import (
	"fmt"
	"maps"
	"math/rand/v2"
	"reflect"
	"slices"
	"strings"
	"testing"

	"witness/api"
	"witness/catalog"
	"witness/compact"
	"witness/disk"
)

// crashesOf are crashes of a cache with so many writes: that lose all, keep all, keep the first ones, keep what they like; and such that tear one write besides.
func crashesOf(pending int, r *rand.Rand) []api.Crash {
	kept := func(keep func(i int) bool) api.Crash {
		c := api.Crash{Torn: -1}
		for i := range pending {
			c.Keep = append(c.Keep, keep(i))
		}
		return c
	}
	l := []api.Crash{kept(func(int) bool { return false })}
	if pending == 0 {
		return l
	}
	first := r.IntN(pending)
	l = append(l, kept(func(int) bool { return true }), kept(func(i int) bool { return i < first }), kept(func(i int) bool { return i >= first }), kept(func(i int) bool { return i == first }))
	for odds := range 4 {
		l = append(l, kept(func(int) bool { return r.IntN(5) <= odds }))
	}
	for _, c := range slices.Clone(l) {
		for _, torn := range []int{pending - 1, r.IntN(pending)} {
			c.Torn, c.At = torn, []int{0, 1, 8, 16, 20, 44, 52, 127, r.IntN(sector)}[r.IntN(9)]
			l = append(l, c)
		}
	}
	return l
}

// stores are disks on which Run comes to each of its ends.
func stores(t *testing.T) map[string]*disk.Disk {
	t.Helper()
	l := map[string]*disk.Disk{
		"all victims":             layout{whole: 1024, segs: [][]int{{60, 61, -300}, {100, -200, 62}, {-800}}, versions: 2, free: 3, spare: 300}.disk(t),
		"one segment is free":     layout{whole: 1024, segs: [][]int{{60, 61, -300}, {100, -200, 62}, {500, -30}}, versions: 1, free: 1}.disk(t),
		"no segment is free":      layout{whole: 1024, segs: [][]int{{20, -300}, {-900}}, versions: 1, spare: 250}.disk(t),
		"half of the victims":     layout{whole: 1024, segs: halves(5, 330), versions: 1, free: 1}.disk(t),
		"one of the victims":      layout{whole: 1024, segs: halves(3, 450), versions: 2, free: 1}.disk(t),
		"none of the victims":     layout{whole: 1024, segs: halves(4, 450), versions: 6, free: 1}.disk(t),
		"the last serial is near": layout{whole: 1024, segs: halves(4, 450), versions: 1, free: 2, serial: api.MaxNumber - 1}.disk(t),
	}
	d, c := store(t, 8, 1024, 1) // the chapter's example
	for i := range 6 {
		must(t, "14.8: Add", apply(c, edit("a", strings.Repeat(fmt.Sprint(i), 100))))
	}
	l["the example"] = d
	d, c = store(t, 16, 1024, 2) // versions that share towers
	for i := range 9 {
		must(t, "14.8: Add", apply(c, edit(string(rune('a'+i%4)), strings.Repeat(fmt.Sprint(i), 40))))
	}
	l["versions that share"] = d
	return l
}

// TestBroken: the power goes at each write and each flush of Run, and any crash follows.
func TestBroken(t *testing.T) {
	ends := map[api.Errno]int{}
	for name, d := range stores(t) {
		_, e := compact.Run(open(t, d.Copy()))
		ends[e]++
		t.Run(name, func(t *testing.T) {
			t.Parallel()
			broken(t, d)
		})
	}
	if !maps.Equal(ends, map[api.Errno]int{api.OK: 7, api.ErrFull: 1, api.ErrLast: 1}) {
		t.Errorf("15.3: Run comes to the ends %v", ends)
	}
}

// broken holds Run on a disk against all crashes.
func broken(t *testing.T, d *disk.Disk) {
	was, before := factsOf(t, open(t, d)), viewOf(open(t, d))
	done := d.Copy()
	_, end := compact.Run(open(t, done))
	after := viewOf(open(t, done))
	met := map[string]int{}
	for fuse := 0; ; fuse++ {
		x := d.Copy()
		c := open(t, x)
		x.Fuse(fuse)
		n, e := compact.Run(c)
		what := fmt.Sprintf("fuse %d", fuse)
		if e == api.ErrPower && (n != 0 || !x.Off() || c.Super() != before.Super) || e != api.ErrPower && e != end {
			t.Errorf("15.3: %s: Run = %d, %d, the power is gone: %v", what, n, e, x.Off())
		}
		if e != api.OK { // it is undone, without asking anything of the disk
			if !reflect.DeepEqual(each(c.Blobs()), before.Blobs) || !reflect.DeepEqual(c.Blobs().Log().Tail(), before.Tail) || c.Blobs().Undo() != api.ErrOpen {
				t.Errorf("15.3: %s: the change is not undone", what)
			}
		}
		for _, crash := range crashesOf(len(x.Pending()), noise(uint64(fuse))) {
			y := x.Copy()
			y.Crash(crash)
			o := open(t, y)
			v := viewOf(o)
			switch {
			case reflect.DeepEqual(v, before) && e != api.OK:
				met["before"]++
			case reflect.DeepEqual(v, after) && len(x.Pending()) < 2:
				met["after"]++
			default:
				t.Fatalf("15.4: %s, %v: %v, marks %v\nwant %v, marks %v\nor   %v, marks %v", what, crash, v.Super, v.Tail.Marks, before.Super, before.Tail.Marks, after.Super, after.Tail.Marks)
			}
			stays(t, what, o, was)
		}
		back(x)
		runs(t, what+", and a crash", c, 0, api.ErrDead)
		o := open(t, x)
		if again := run(o); e != api.OK && again != end {
			t.Errorf("15.3: %s: Run again: %d, want %d", what, again, end)
		}
		stays(t, what+", Run again", o, was)
		stays(t, what+", Run again, opened again", open(t, x), was)
		if e != api.ErrPower {
			break
		}
		met["refused"]++
	}
	if met["before"] < 10 || met["refused"] < 4 || end == api.OK && met["after"] < 5 || end != api.OK && met["after"] != 0 {
		t.Errorf("15.4: %v", met)
	}
}

// TestSuperTorn: the superblock's own write, torn at each byte, leaves the store as it was ahead of Run or behind it.
func TestSuperTorn(t *testing.T) {
	d := layout{whole: 1024, segs: [][]int{{60, 61, -300}, {-800}}, versions: 2, free: 2}.disk(t)
	was := factsOf(t, open(t, d))
	stats := d.Stats()
	done := d.Copy()
	must(t, "15.3: Run", run(open(t, done)))
	now := done.Stats()
	x := d.Copy()
	c := open(t, x)
	x.Fuse(int(now.Writes-stats.Writes+now.Flushes-stats.Flushes) - 1)
	answers(t, "15.3: Run", run(c), api.ErrPower)
	if p := x.Pending(); !slices.Equal(p, []int{1}) {
		t.Fatalf("14.6: pending are %v", p)
	}
	seqs := map[uint64]int{}
	for at := range sector + 1 {
		y := x.Copy()
		y.Crash(api.Crash{Torn: 0, At: at})
		o := open(t, y)
		seqs[o.Super().Seq]++
		stays(t, fmt.Sprint("torn at ", at), o, was)
	}
	if len(seqs) != 2 || seqs[4] == 0 || seqs[5] == 0 {
		t.Errorf("15.4: %v", seqs)
	}
}

func run(c *catalog.Catalog) api.Errno {
	_, e := compact.Run(c)
	return e
}
