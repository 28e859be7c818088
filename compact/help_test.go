package compact_test

import (
	"fmt"
	"math/rand/v2"
	"reflect"
	"testing"

	"witness/annals"
	"witness/api"
	"witness/blobs"
	"witness/catalog"
	"witness/disk"
	"witness/prove"
	"witness/skip"
	"witness/sweep"
)

const (
	sector = 128 // bytes
	header = 16  // bytes of a segment's
	around = 14  // bytes of a frame beside its blob's body
)

func noise(seed uint64) *rand.Rand { return rand.New(rand.NewPCG(seed, 15)) }

func answers(t *testing.T, what string, got, want api.Errno) {
	t.Helper()
	if got != want {
		t.Errorf("%s: %d, want %d", what, got, want)
	}
}

func must(t *testing.T, what string, got api.Errno) {
	t.Helper()
	if got != api.OK {
		t.Fatalf("%s: %d", what, got)
	}
}

// store is a disk of so many segments of so many bytes, behind Format, and its catalog.
func store(t *testing.T, segments, whole, window int) (*disk.Disk, *catalog.Catalog) {
	t.Helper()
	d, e := disk.New(2+segments*whole/sector, sector)
	must(t, "3.1: New", e)
	must(t, "14.1: Format", catalog.Format(d, whole/sector, window))
	return d, open(t, d)
}

func open(t *testing.T, d *disk.Disk) *catalog.Catalog {
	t.Helper()
	c, e := catalog.Open(d)
	if c == nil || e != api.OK {
		t.Fatalf("14.2: Open = %v, %d", c != nil, e)
	}
	return c
}

// apply commits the newest map with edits as the next version.
func apply(c *catalog.Catalog, edits ...api.Edit) api.Errno {
	b := c.Blobs()
	if e := b.Begin(); e != api.OK {
		return e
	}
	tree, e := sweep.Apply(b, c.Latest().Tree, edits)
	if e != api.OK {
		b.Undo()
		return e
	}
	_, e = c.Add(tree)
	return e
}

func edit(key, value string) api.Edit { return api.Edit{Key: []byte(key), Value: []byte(value)} }

func gone(key string) api.Edit { return api.Edit{Key: []byte(key), Gone: true} }

// item is a blob that is there.
type item struct {
	Addr  api.Addr
	Place api.Place
}

func each(b *blobs.Blobs) []item {
	var l []item
	for a, p := range b.Each() {
		l = append(l, item{a, p})
	}
	return l
}

// view is all that a catalog tells, and where its blobs lie.
type view struct {
	Super   api.Super
	Page    api.Page
	Live    []api.Addr
	LiveErr api.Errno
	Blobs   []item
	Tail    api.Tail
}

func viewOf(c *catalog.Catalog) view {
	v := view{Super: c.Super(), Page: c.Page(), Blobs: each(c.Blobs()), Tail: c.Blobs().Log().Tail()}
	v.Live, v.LiveErr = c.Live()
	return v
}

// holds holds one thing against another.
func holds(t *testing.T, what string, got, want any) {
	t.Helper()
	if !reflect.DeepEqual(got, want) {
		t.Errorf("%s: %+v\nwant %+v", what, got, want)
	}
}

// same holds one view against another, in few words.
func same(t *testing.T, what string, got, want view) {
	t.Helper()
	if !reflect.DeepEqual(got, want) {
		t.Errorf("%s: %v, marks %v, %d blobs\nwant %v, marks %v, %d blobs", what, got.Super, got.Tail.Marks, len(got.Blobs), want.Super, want.Tail.Marks, len(want.Blobs))
	}
}

// facts are all that stays, whatever compaction does (15.4).
type facts struct {
	Last     uint64
	Window   int
	Versions []api.Version
	Maps     []string
	Proofs   []string
	Annal    api.Annal
	Leaves   []api.Leaf
	Paths    [][]api.Sum
}

// factsOf reads all versions and the annals to their last byte.
func factsOf(t *testing.T, c *catalog.Catalog) facts {
	t.Helper()
	p, b := c.Page(), c.Blobs()
	f := facts{Last: p.Last, Window: p.Window, Versions: p.Versions, Annal: p.Annal}
	all := api.Span{Open: true}
	for _, v := range p.Versions {
		must(t, "15.4: a kept version", skip.Check(b, v.Tree))
		told := ""
		for entry, e := range sweep.Each(b, v.Tree, all) {
			must(t, "15.4: an entry", e)
			told += fmt.Sprintf("%q=%q ", entry.Key, entry.Value)
			proof, e := prove.Key(b, v.Tree, entry.Key)
			must(t, "15.4: a key's proof", e)
			f.Proofs = append(f.Proofs, string(proof))
		}
		f.Maps = append(f.Maps, told)
		for _, s := range []api.Span{all, {Lo: []byte("b"), Open: true}, {Hi: []byte("c")}, prove.Only([]byte("not there"))} {
			proof, e := prove.Span(b, v.Tree, s)
			must(t, "15.4: a proof", e)
			f.Proofs = append(f.Proofs, string(proof))
		}
	}
	for i := range p.Annal.Size {
		leaf, e := annals.Leaf(b, p.Annal, i)
		must(t, "15.4: a leaf", e)
		in, e := annals.Inclusion(b, p.Annal, i)
		must(t, "15.4: a path", e)
		grown, e := annals.Consistency(b, p.Annal, i+1)
		must(t, "15.4: a path", e)
		f.Leaves = append(f.Leaves, leaf)
		f.Paths = append(f.Paths, in, grown)
	}
	return f
}

// stays holds the facts of a catalog against those of an earlier moment.
func stays(t *testing.T, what string, c *catalog.Catalog, want facts) {
	t.Helper()
	if got := factsOf(t, c); !reflect.DeepEqual(got, want) {
		t.Fatalf("15.4: %s: versions %v, maps %q\nwant %v, %q", what, got.Versions, got.Maps, want.Versions, want.Maps)
	}
}

// whatDiskHas is all that is on a disk, in its cache, and how often it was written.
func whatDiskHas(d *disk.Disk) string {
	s := d.Stats()
	return fmt.Sprint(s.Writes, s.Flushes, d.Pending(), d.Era(), d.Off(), " ") + string(d.Image())
}

// untouched holds that something changes neither the disk nor what the catalog tells.
func untouched(t *testing.T, what string, c *catalog.Catalog, do func()) {
	t.Helper()
	d := c.Blobs().Log().Disk()
	before, on := viewOf(c), whatDiskHas(d)
	do()
	if whatDiskHas(d) != on {
		t.Errorf("%s: the disk was written", what)
	}
	same(t, what, viewOf(c), before)
}

// free is how many segments are free and may be given out.
func free(c *catalog.Catalog) int {
	n, tail := 0, c.Blobs().Log().Tail()
	for seg, m := range tail.Marks {
		if m.Serial == 0 && !tail.Held[seg] {
			n++
		}
	}
	return n
}

// heldBack is how many free segments the log gives nobody. What it writes lies in free segments.
func heldBack(t *testing.T, c *catalog.Catalog) int {
	t.Helper()
	log := c.Blobs().Log()
	tail := log.Tail()
	e := api.OK
	for e == api.OK {
		e = log.Next()
	}
	answers(t, "5.3: Next", e, api.ErrFull)
	n := free(c)
	must(t, "5.10: Rewind", log.Rewind(tail))
	return n
}

// off takes the power away, back gives it back; what was not flushed is lost.
func off(d *disk.Disk) {
	d.Fuse(0)
	d.Flush()
}

func back(d *disk.Disk) { d.Crash(api.Crash{Torn: -1}) }
