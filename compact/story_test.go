package compact_test

import (
	"fmt"
	"maps"
	"math/rand/v2"
	"slices"
	"strings"
	"testing"

	"witness/api"
	"witness/catalog"
	"witness/compact"
	"witness/disk"
)

// pair is two stores to which the same is done; one of them is compacted by the program, the other one by the model.
type pair struct {
	disks    [2]*disk.Disk
	catalogs [2]*catalog.Catalog
}

func newPair(t *testing.T, segments, whole, window int) *pair {
	t.Helper()
	p := &pair{}
	for i := range p.disks {
		p.disks[i], p.catalogs[i] = store(t, segments, whole, window)
	}
	return p
}

// do does one thing to both, and holds one against the other.
func (p *pair) do(t *testing.T, what string, thing func(d *disk.Disk, c *catalog.Catalog) string) string {
	t.Helper()
	one, two := thing(p.disks[0], p.catalogs[0]), thing(p.disks[1], p.catalogs[1])
	p.alike(t, what, one, two)
	return one
}

func (p *pair) alike(t *testing.T, what, one, two string) {
	t.Helper()
	if one != two {
		t.Fatalf("15.3: %s: %s, want %s", what, one, two)
	}
	if whatDiskHas(p.disks[0]) != whatDiskHas(p.disks[1]) {
		t.Fatalf("15.3: %s: the disks differ", what)
	}
	same(t, "15.3: "+what, viewOf(p.catalogs[0]), viewOf(p.catalogs[1]))
}

func (p *pair) run(t *testing.T, what string) (int, api.Errno) {
	t.Helper()
	n, e := compact.Run(p.catalogs[0])
	m, f := modelRun(p.catalogs[1])
	p.alike(t, what, fmt.Sprint(n, " ", e), fmt.Sprint(m, " ", f))
	return n, e
}

func (p *pair) open(t *testing.T) {
	t.Helper()
	for i, d := range p.disks {
		p.catalogs[i] = open(t, d)
	}
}

// crash lets both disks crash alike.
func (p *pair) crash(r *rand.Rand) {
	c := api.Crash{Torn: -1}
	odds := r.IntN(5)
	for range p.disks[0].Pending() {
		c.Keep = append(c.Keep, r.IntN(4) < odds)
	}
	if n := len(c.Keep); n > 0 && r.IntN(2) == 0 {
		c.Torn, c.At = []int{n - 1, r.IntN(n)}[r.IntN(2)], r.IntN(sector+1)
	}
	for _, d := range p.disks {
		d.Crash(c)
	}
}

// history is the maps of all versions, as they were committed.
type history []map[string]string

// told holds a catalog's kept versions and its annals against the history.
func (h history) told(t *testing.T, what string, c *catalog.Catalog) {
	t.Helper()
	f := factsOf(t, c)
	if int(f.Last) != len(h)-1 || len(f.Leaves) != len(h) {
		t.Fatalf("15.4: %s: the newest version is %d, there are %d leaves, want %d", what, f.Last, len(f.Leaves), len(h))
	}
	for i, v := range f.Versions {
		want := ""
		for _, k := range slices.Sorted(maps.Keys(h[v.Number])) {
			want += fmt.Sprintf("%q=%q ", k, h[v.Number][k])
		}
		if f.Maps[i] != want || f.Leaves[v.Number].Label != v.Tree.Label {
			t.Fatalf("15.4: %s: version %d is %s\nwant %s", what, v.Number, f.Maps[i], want)
		}
	}
}

// anyEdits are edits of a few keys, and the map behind them.
func anyEdits(r *rand.Rand, m map[string]string) ([]api.Edit, map[string]string) {
	m = maps.Clone(m)
	var l []api.Edit
	for range 1 + r.IntN(3) {
		key := fmt.Sprint(r.IntN(9))
		if r.IntN(4) == 0 {
			delete(m, key)
			l = append(l, gone(key))
			continue
		}
		m[key] = strings.Repeat(fmt.Sprint(r.IntN(4)), r.IntN(150))
		l = append(l, edit(key, m[key]))
	}
	return l, m
}

// TestStory: stores through versions, windows, changes, compactions, refusals and crashes, held against the model and the history.
func TestStory(t *testing.T) {
	t.Parallel()
	met := map[string]int{}
	for seed := range uint64(40) {
		r := noise(seed)
		p := newPair(t, 8+r.IntN(10), 1024*(1+r.IntN(2)), 1+r.IntN(3))
		h := history{{}}
		for step := range 40 {
			what := fmt.Sprintf("seed %d, step %d", seed, step)
			fused := r.IntN(4) == 0
			if fused {
				n := r.IntN(30)
				p.do(t, what, func(d *disk.Disk, c *catalog.Catalog) string { d.Fuse(n); return "" })
			}
			last := p.catalogs[0].Super().Seq
			var next map[string]string
			e := api.OK
			switch n := r.IntN(12); {
			case n < 6:
				edits, m := anyEdits(r, h[len(h)-1])
				next = m
				p.do(t, what, func(d *disk.Disk, c *catalog.Catalog) string { e = apply(c, edits...); return e.Error() })
				met["versions "+e.Error()]++
			case n < 7:
				window := 1 + r.IntN(3)
				p.do(t, what, func(d *disk.Disk, c *catalog.Catalog) string { e = c.Keep(window); return e.Error() })
			case n < 8: // blobs that nobody needs, a segment begun, another reserve
				l, reserve := r.IntN(200), r.IntN(3)
				p.do(t, what, func(d *disk.Disk, c *catalog.Catalog) string {
					_, e = c.Blobs().Put(api.KindValue, make([]byte, l))
					c.Blobs().Log().Reserve(reserve)
					if l%5 == 0 {
						e = c.Blobs().Log().Next()
					}
					return e.Error()
				})
			default:
				var k int
				begun := r.IntN(6) == 0
				if begun {
					p.do(t, what, func(d *disk.Disk, c *catalog.Catalog) string { return c.Blobs().Begin().Error() })
				}
				before := free(p.catalogs[0])
				k, e = p.run(t, what)
				met[fmt.Sprint("run ", e)]++
				if e == api.OK && before <= 1 {
					met["run of a full store"]++
				}
				if e == api.ErrVictim {
					halfLive(t, what, p.catalogs[0])
				}
				if e == api.OK {
					met["freed"] += k
				}
				if begun {
					p.do(t, what, func(d *disk.Disk, c *catalog.Catalog) string { return c.Blobs().Undo().Error() })
				}
			}
			if e == api.OK && next != nil {
				h = append(h, next)
			}
			if p.disks[0].Off() {
				p.crash(r)
				p.open(t)
				if s := p.catalogs[0].Super().Seq; s != last {
					met["done, though refused"]++
					if next != nil {
						h = append(h, next)
					}
				}
				met["crash"]++
			}
			p.do(t, what, func(d *disk.Disk, c *catalog.Catalog) string { d.Fuse(-1); return "" })
			if r.IntN(8) == 0 {
				p.crash(r)
				p.open(t)
			}
			h.told(t, what, p.catalogs[0])
			told(t, what, p.catalogs[0])
		}
	}
	for what, least := range map[string]int{"run error 0": 60, "run error 32": 15, "run error 62": 5, "run error 150": 20, "run error 51": 1, "versions error 51": 20, "freed": 100, "crash": 80, "done, though refused": 1, "run of a full store": 5} {
		if met[what] < least {
			t.Errorf("%s: %d, want %d", what, met[what], least)
		}
	}
}
