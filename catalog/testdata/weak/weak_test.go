// Package weak holds stores against blobs that share their digests. It is laid beside a copy of the program whose digests have one byte that is not 0: of such ones many texts share each.
package weak

import (
	"fmt"
	"maps"
	"math/rand"
	"reflect"
	"slices"
	"testing"

	"witness/annals"
	"witness/api"
	"witness/blobs"
	"witness/catalog"
	"witness/codec"
	"witness/digest"
	"witness/disk"
	"witness/skip"
)

func must(t *testing.T, what string, e api.Errno) {
	t.Helper()
	if e != api.OK {
		t.Fatalf("%s: %d", what, e)
	}
}

func store(t *testing.T, window int) *disk.Disk {
	t.Helper()
	d, e := disk.New(2+16*64, 512)
	must(t, "3.1: New", e)
	must(t, "14.1: Format", catalog.Format(d, 64, window))
	return d
}

func open(t *testing.T, d *disk.Disk) *catalog.Catalog {
	t.Helper()
	c, e := catalog.Open(d)
	must(t, "14.2: Open", e)
	return c
}

// TestDigestsAreWeak: else what follows tells nothing.
func TestDigestsAreWeak(t *testing.T) {
	sums := map[api.Sum]bool{}
	for i := range 10000 {
		sums[digest.Of([]byte(fmt.Sprint(i)))] = true
	}
	if len(sums) != 256 {
		t.Fatalf("there are %d digests", len(sums))
	}
}

type item struct {
	addr  api.Addr
	place api.Place
}

type view struct {
	Super api.Super
	Page  api.Page
	Blobs []item
	Live  []api.Addr
	Tail  api.Tail
}

func viewOf(t *testing.T, c *catalog.Catalog) view {
	t.Helper()
	v := view{Super: c.Super(), Page: c.Page(), Tail: c.Blobs().Log().Tail()}
	for a, p := range c.Blobs().Each() {
		v.Blobs = append(v.Blobs, item{a, p})
	}
	var e api.Errno
	v.Live, e = c.Live()
	must(t, "14.4: Live", e)
	return v
}

// useUp puts values until none can have that digest any more.
func useUp(t *testing.T, b *blobs.Blobs, sum api.Sum) {
	t.Helper()
	for i := 0; ; i++ {
		body := []byte(fmt.Sprint("value ", i))
		if blobs.Digest(api.KindValue, body) != sum {
			continue
		}
		a, e := b.Put(api.KindValue, body)
		must(t, "6.3: Put", e)
		if a.Nth == 255 {
			return
		}
	}
}

// TestTwins: a commit whose leaf or fork can have no address changes nothing.
func TestTwins(t *testing.T) {
	met := map[api.Errno]int{}
	for versions := range 6 {
		for _, begun := range []bool{true, false} {
			d := store(t, 3)
			c := open(t, d)
			tree := c.Latest().Tree
			for range versions {
				_, e := c.Add(tree)
				must(t, "14.8: Add", e)
			}
			before := viewOf(t, c)
			reopened := viewOf(t, open(t, d))
			leaf := codec.Leaf(api.Leaf{Version: uint64(versions + 1), Label: tree.Label})
			if begun {
				must(t, "6.8: Begin", c.Blobs().Begin())
			}
			useUp(t, c.Blobs(), blobs.Digest(api.KindLeaf, leaf))
			if !begun {
				must(t, "14.9: Commit", c.Commit())
				before = viewOf(t, c)
				reopened = viewOf(t, open(t, d))
			}
			v, e := c.Add(tree)
			met[e]++
			if v != (api.Version{}) || e != api.ErrTwins || c.Dead() {
				t.Errorf("14.11: Add = %v, %d, dead %v", v, e, c.Dead())
			}
			if !reflect.DeepEqual(viewOf(t, c), before) {
				t.Error("14.11: behind ErrTwins something has changed")
			}
			n := open(t, d)
			if !reflect.DeepEqual(viewOf(t, n), reopened) {
				t.Error("14.11: behind ErrTwins and reopening something has changed")
			}
			if v, e := n.Add(tree); v.Number != uint64(versions+1) || e != api.OK {
				t.Errorf("14.8: Add = %v, %d", v, e)
			}
		}
	}
	if len(met) != 1 {
		t.Errorf("14.11: %v", met)
	}
}

// TestStore: versions stay what they are, through windows, crashes and reopening, where each digest is that of many blobs.
func TestStore(t *testing.T) {
	r := rand.New(rand.NewSource(1))
	shared := 0
	for range 6 {
		d := store(t, 1+r.Intn(3))
		c := open(t, d)
		was := []map[string]string{{}}
		for range 60 {
			m := maps.Clone(was[len(was)-1])
			key, value := fmt.Sprint(r.Intn(20)), fmt.Sprint(r.Intn(50))
			must(t, "6.8: Begin", c.Blobs().Begin())
			tree := c.Latest().Tree
			var e api.Errno
			if r.Intn(3) == 0 {
				delete(m, key)
				tree, _, e = skip.Delete(c.Blobs(), tree, []byte(key))
			} else {
				m[key] = value
				tree, e = skip.Put(c.Blobs(), tree, []byte(key), []byte(value))
			}
			must(t, "8.5, 8.6", e)
			_, e = c.Add(tree)
			must(t, "14.8: Add", e)
			was = append(was, m)
			if r.Intn(3) == 0 {
				d.Crash(api.Crash{Torn: -1})
				c = open(t, d)
			}
			for _, v := range c.Page().Versions {
				must(t, "14.11: a kept version", skip.Check(c.Blobs(), v.Tree))
				if v.Tree.Count != uint64(len(was[v.Number])) {
					t.Errorf("14.11: version %d has %d keys", v.Number, v.Tree.Count)
				}
				for _, k := range slices.Sorted(maps.Keys(was[v.Number])) {
					if x, ok, e := skip.Get(c.Blobs(), v.Tree, []byte(k)); string(x) != was[v.Number][k] || !ok || e != api.OK {
						t.Errorf("14.11: version %d has %q at %q", v.Number, x, k)
					}
				}
			}
			for i := range was {
				if l, e := annals.Leaf(c.Blobs(), c.Page().Annal, uint64(i)); l.Version != uint64(i) || e != api.OK {
					t.Errorf("14.12: leaf %d is %v, %d", i, l, e)
				}
			}
		}
		for a := range c.Blobs().Each() {
			if a.Nth > 0 {
				shared++
			}
		}
		if l, e := c.Live(); e != api.OK || len(l) > c.Blobs().Len() {
			t.Errorf("14.4: %d addresses, %d", len(l), e)
		}
	}
	if shared < 50 {
		t.Errorf("only %d blobs share their digest with another one", shared)
	}
}
