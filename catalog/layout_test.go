package catalog_test

import (
	"fmt"
	"slices"
	"strings"
	"testing"

	"witness/api"
	"witness/catalog"
)

// usage is the live bytes and the used bytes of the segments that are in use.
func usage(t *testing.T, c *catalog.Catalog) string {
	t.Helper()
	live, e := c.Live()
	must(t, "14.4: Live", e)
	bytes := map[int]int{}
	for _, a := range live {
		p, _ := c.Blobs().Where(a)
		bytes[p.Seg] += p.Len
	}
	var l []string
	for seg, m := range c.Blobs().Log().Tail().Marks {
		if m != (api.Mark{}) {
			l = append(l, fmt.Sprintf("%d / %d", bytes[seg], m.Used))
		}
	}
	return strings.Join(l, ", ")
}

// TestLayout: where things come to lie, as the examples of the chapters 15 and 17 tell.
func TestLayout(t *testing.T) {
	c := open(t, formatted(t, 1))
	if got := usage(t, c); got != "63 / 248" {
		t.Errorf("14.1: %s", got)
	}
	want := map[int]string{
		0: "488 / 859",
		1: "403 / 1024, 132 / 385",
		4: "238 / 1024, 382 / 970, 344 / 1019, 144 / 399",
		5: "238 / 1024, 382 / 970, 94 / 1019, 441 / 1001",
	}
	for i := range 6 {
		add(t, c, "a", strings.Repeat(fmt.Sprint(i), 100))
		if got := usage(t, c); want[i] != "" && got != want[i] {
			t.Errorf("14.8: version %d: %s, want %s", i+1, got, want[i])
		}
	}

	d := formatted(t, 2)
	c = open(t, d)
	add(t, c, "a", strings.Repeat("0", 100))
	value, _ := c.Blobs().Where(blob{1, strings.Repeat("0", 100)}.addr())
	add(t, c, "b", strings.Repeat("1", 100))
	live, e := c.Live()
	s := c.Super()
	if len(live) != 11 || e != api.OK || c.Blobs().Len() != 12 || value != (api.Place{Seg: 0, At: 248, Len: 114}) {
		t.Errorf("14.8: %d live, %d blobs, a value at %v", len(live), c.Blobs().Len(), value)
	}
	if s.Page.Seg != 1 || s.Page.At != 433 || s.Seq%2 != 1 || open(t, d).Blobs().Len() != 11 {
		t.Errorf("14.6: the page is at %v, Seq %d", s.Page, s.Seq)
	}
	if !slices.Equal(live, opened(t, d).live) {
		t.Error("14.4: other addresses")
	}
}
