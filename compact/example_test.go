package compact_test

import (
	"fmt"
	"strings"
	"testing"

	"witness/annals"
	"witness/api"
	"witness/catalog"
	"witness/compact"
	"witness/skip"
)

// inUse is Live by Used of the segments in use.
func inUse(t *testing.T, c *catalog.Catalog) string {
	t.Helper()
	l, e := compact.Usage(c)
	if must(t, "15.1: Usage", e); len(l) != 8 {
		t.Fatalf("15.1: Usage of %d segments", len(l))
	}
	var words []string
	for seg, u := range l {
		fill := 0.0
		if u.Used > 0 {
			words = append(words, fmt.Sprintf("%d: %d / %d", seg, u.Live, u.Used))
			fill = float64(u.Live) / float64(u.Used)
		}
		if u.Seg != seg || u.Fill != fill {
			t.Errorf("15.1: segment %d: %+v", seg, u)
		}
	}
	return strings.Join(words, ", ")
}

// TestExamples holds the chapter's examples, one behind the other.
func TestExamples(t *testing.T) {
	d, c := store(t, 8, 1024, 1)
	holds(t, "15.1: example 1", inUse(t, c), "0: 63 / 248")
	hasVictims(t, "example 1", c)
	runs(t, "example 1", c, 0, api.ErrVictim)
	for i, row := range []struct {
		usage   string
		victims []int
	}{
		{"0: 488 / 859", nil},
		{"0: 403 / 1024, 1: 132 / 385", []int{0}},
		{"0: 238 / 1024, 1: 632 / 970, 2: 0 / 187", []int{0}},
		{"0: 238 / 1024, 1: 382 / 970, 2: 297 / 722", []int{0, 1}},
		{"0: 238 / 1024, 1: 382 / 970, 2: 344 / 1019, 3: 144 / 399", []int{0, 2, 1}},
		{"0: 238 / 1024, 1: 382 / 970, 2: 94 / 1019, 3: 441 / 1001", []int{2, 0, 1}},
	} {
		b := c.Blobs()
		must(t, "6.8: Begin", b.Begin())
		tree, e := skip.Put(b, c.Latest().Tree, []byte("a"), []byte(strings.Repeat(fmt.Sprint(i), 100)))
		must(t, "8.5: Put", e)
		_, e = c.Add(tree)
		must(t, "14.8: Add", e)
		holds(t, fmt.Sprint("15.1: example 2: version ", i+1), inUse(t, c), row.usage)
		hasVictims(t, fmt.Sprint("example 2: version ", i+1), c, row.victims...)
	}
	must(t, "6.8: Begin", c.Blobs().Begin())
	runs(t, "example 5", c, 0, api.ErrOpen)
	must(t, "6.8: Undo", c.Blobs().Undo())
	runs(t, "example 3", c, 3, api.OK)
	holds(t, "15.3: example 3", inUse(t, c), "3: 441 / 1001, 4: 714 / 730, 5: 0 / 319")
	runs(t, "example 3", c, 1, api.OK)
	holds(t, "15.3: example 3", inUse(t, c), "0: 0 / 319, 4: 714 / 730, 5: 441 / 760")
	if c.Super().Page.Seg != 0 {
		t.Errorf("15.3: example 3: the page is in segment %d", c.Super().Page.Seg)
	}
	runs(t, "example 3", c, 0, api.ErrVictim)
	for range 2 {
		v, there, e := skip.Get(c.Blobs(), c.Latest().Tree, []byte("a"))
		if string(v) != strings.Repeat("5", 100) || !there || e != api.OK {
			t.Errorf("15.4: example 4: %q, %v, %d", v, there, e)
		}
		if h := annals.Head(c.Page().Annal); h.Size != 7 {
			t.Errorf("15.4: example 4: %d leaves", h.Size)
		}
		old := c
		back(d)
		runs(t, "example 5", old, 0, api.ErrDead)
		c = open(t, d)
	}
}
