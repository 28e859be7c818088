package catalog_test

import (
	"slices"
	"testing"

	"witness/api"
)

// smear writes into a list and its spare room.
func smear[T any](l []T, x T) {
	l = l[:cap(l)]
	for i := range l {
		l[i] = x
	}
}

// TestHandedOut: what is handed out is new memory, spare room included.
func TestHandedOut(t *testing.T) {
	d := wide(t, 3)
	c := grown(t, d, 6)
	page, live := string(pageBytes(c.Page())), slices.Clone(viewOf(c).Live)
	others := func(p api.Page) string { return string(pageBytes(api.Page{Versions: p.Versions, Annal: p.Annal})) }
	for range 2 {
		p, q := c.Page(), c.Page()
		l, e := c.Live()
		m, _ := c.Live()
		must(t, "14.4: Live", e)
		smear(p.Marks, api.Mark{Serial: 9, Used: 9})
		if others(p) != others(q) {
			t.Error("0.4: two lists of a page share memory")
		}
		smear(p.Versions, api.Version{Number: 9})
		if string(pageBytes(api.Page{Annal: p.Annal})) != string(pageBytes(api.Page{Annal: q.Annal})) {
			t.Error("0.4: two lists of a page share memory")
		}
		smear(p.Annal.Peaks, api.Peak{Size: 9})
		smear(l, api.Addr{Nth: 9})
		if string(pageBytes(q)) != page || string(pageBytes(c.Page())) != page || !slices.Equal(m, live) || !slices.Equal(viewOf(c).Live, live) {
			t.Error("0.4: what was handed out is kept, or two answers share memory")
		}
	}
	old := c.Page()
	add(t, c, "x", "y")
	must(t, "14.9: Keep", c.Keep(2))
	if string(pageBytes(old)) != page {
		t.Error("0.4: a commit changes a page that was handed out")
	}
	found(t, "0.4: behind all that", open(t, d), opened(t, d))
}

// TestOneBlobs: Blobs is always the same, and its log's disk is the one that was opened.
func TestOneBlobs(t *testing.T) {
	d := wide(t, 3)
	c := open(t, d)
	b := c.Blobs()
	if b == nil || b.Log().Disk() != d {
		t.Fatal("14.3: no blobs of the disk")
	}
	add(t, c, "a", "1")
	c.Keep(0)
	must(t, "14.9: Commit", c.Commit())
	if c.Blobs() != b || open(t, d).Blobs() == b {
		t.Error("14.3: other blobs")
	}
	off(d)
	answers(t, "14.7: Commit", c.Commit(), api.ErrPower)
	if c.Blobs() != b {
		t.Error("14.3: other blobs of a dead catalog")
	}
}

// TestTells: Super, Page, Latest and Version behind Open, each commit and each refusal.
func TestTells(t *testing.T) {
	d := wide(t, 2)
	c := open(t, d)
	tells := func(what string) {
		t.Helper()
		n := open(t, d)
		if n.Super() != c.Super() || n.Latest() != c.Latest() || string(pageBytes(n.Page())) != string(pageBytes(c.Page())) {
			t.Errorf("14.3: %s: %v, want %v", what, c.Super(), n.Super())
		}
		p := c.Page()
		if c.Latest() != p.Versions[len(p.Versions)-1] || c.Latest().Number != p.Last {
			t.Errorf("14.3: %s: the newest is %v", what, c.Latest())
		}
		if m := p.Marks[c.Super().Page.Seg]; m.Used != c.Super().Page.At {
			t.Errorf("14.3: %s: the page's own frame is in its marks: %v", what, m)
		}
	}
	tells("behind Open")
	for i := range 5 {
		add(t, c, string(rune('a'+i)), "")
		tells("behind Add")
		must(t, "14.9: Commit", c.Commit())
		tells("behind Commit")
		answers(t, "14.9: Keep", c.Keep(0), api.ErrWindow)
		tells("behind a refused Keep")
		must(t, "14.9: Keep", c.Keep(1+i%3))
		tells("behind Keep")
		must(t, "6.8: Begin", c.Blobs().Begin())
		c.Blobs().Put(api.KindValue, []byte("x"))
		tells("in a change")
		must(t, "6.8: Undo", c.Blobs().Undo())
	}
	for _, n := range []uint64{6, 7, last, last + 1, 1<<64 - 1} {
		if v, e := c.Version(n); v != (api.Version{}) || e != api.ErrVersion {
			t.Errorf("14.3: Version(%d) = %v, %d", n, v, e)
		}
	}
}
