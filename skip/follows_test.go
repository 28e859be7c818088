package skip_test

import (
	"fmt"
	"maps"
	"slices"
	"strings"
	"sync"
	"testing"

	"witness/api"
	"witness/node"
	"witness/skip"
)

// past is a tree, and the map that it had.
type past struct {
	x api.Tree
	m map[string]string
}

// TestManyEdits: each tree and what is written for it, searches in it, and the trees ahead of it.
func TestManyEdits(t *testing.T) {
	for seed := range 6 {
		n := &noise{x: uint64(seed)}
		s := wide(t)
		m := map[string]string{}
		all := []past{{s.empty(), m}}
		for i := 0; i < 90 && !t.Failed(); i++ {
			from := all[len(all)-1]
			if n.below(5) == 0 {
				from = all[n.below(len(all))] // an older tree goes on, too
			}
			x, m := from.x, from.m
			key := n.key()
			if n.below(3) == 0 {
				x, m = s.deletes(x, m, key)
			} else {
				x, m = s.puts(x, m, key, fmt.Sprint(n.below(3)))
			}
			all = append(all, past{x, m})
			s.searches(x, planOf(m), n.key())
		}
		for _, p := range all {
			s.holds(p.x, p.m, n.key())
			root, e := node.Root(listOf(p.m))
			if e != api.OK || root != p.x.Label {
				t.Errorf("8.9: the label is %s, and node.Root is %s, %d", front(p.x.Label), front(root), e)
			}
		}
	}
}

// detour puts all keys of a map in some order, with others that go again and values that are not the last ones.
func detour(s store, n *noise, m map[string]string) api.Tree {
	s.t.Helper()
	x := s.empty()
	put := func(key, value string) {
		var e api.Errno
		x, e = skip.Put(s.b, x, []byte(key), []byte(value))
		answers(s.t, "8.5: Put", e, api.OK)
	}
	var gone []string
	for _, key := range n.shuffled(slices.Sorted(maps.Keys(m))) {
		if n.below(2) == 0 {
			put(key, "for a while")
		}
		if n.below(2) == 0 {
			other := fmt.Sprint(key, n.below(99), "-")
			put(other, "gone soon")
			gone = append(gone, other)
		}
		put(key, m[key])
	}
	for _, key := range n.shuffled(gone) {
		var e api.Errno
		x, _, e = skip.Delete(s.b, x, []byte(key))
		answers(s.t, "8.6: Delete", e, api.OK)
	}
	return x
}

// TestOneMapOneTree: in whatever order keys came and went, over one store and over two.
func TestOneMapOneTree(t *testing.T) {
	n := &noise{x: 3}
	for round := range 6 {
		m := map[string]string{}
		for range 5 * round {
			m[fmt.Sprint(n.below(1000))] = fmt.Sprint(n.below(4))
		}
		if round == 5 {
			for level, key := range byLevel {
				m[key] = fmt.Sprint(level)
			}
			m[higher], m[lowest], m[""] = "", "", ""
		}
		want := planOf(m).tree
		one, two := wide(t), wide(t)
		two.value("something else lies there")
		for range 3 {
			isTree(t, "8.9: over one store", detour(one, n, m), api.OK, want)
			isTree(t, "8.9: over another store", detour(two, n, m), api.OK, want)
		}
		root, e := node.Root(listOf(m))
		if e != api.OK || root != want.Label {
			t.Errorf("8.9: node.Root is %s, %d, want %s", front(root), e, front(want.Label))
		}
	}
}

// TestWhatWasStays: also behind edits that were refused, and in a store that is opened anew.
func TestWhatWasStays(t *testing.T) {
	n := &noise{x: 4}
	s := newStore(t, 130, 512, 16)
	m := map[string]string{}
	all := []past{{s.empty(), m}}
	for i := 0; ; i++ {
		from := all[n.below(len(all))]
		key, value := n.key(), strings.Repeat("v", n.below(300))
		x, e := skip.Put(s.b, from.x, []byte(key), []byte(value))
		if e == api.ErrFull {
			break
		}
		answers(t, "8.5: Put", e, api.OK)
		m := maps.Clone(from.m)
		m[key] = value
		all = append(all, past{x, m})
		if i%3 > 0 {
			continue
		}
		if x, _, e = skip.Delete(s.b, from.x, []byte(key)); e == api.OK {
			m := maps.Clone(from.m)
			delete(m, key)
			all = append(all, past{x, m})
		}
	}
	if len(all) < 20 {
		t.Errorf("8.10: only %d trees until the disk is full", len(all))
	}
	for _, s := range []store{s, s.reopened()} {
		for _, p := range all {
			s.holds(p.x, p.m, n.key())
		}
	}
}

// kinds are how many values and towers stand among some blobs.
func (s store) kinds(l []api.Addr) (values, towers int) {
	for _, a := range l {
		if _, e := s.b.Get(api.KindValue, a); e == api.OK {
			values++
		} else if _, e := s.b.Get(api.KindTower, a); e == api.OK {
			towers++
		}
	}
	return values, towers
}

// TestHowMuchIsWritten: at most a tower for each one of the ways, and the key's own, and its value.
func TestHowMuchIsWritten(t *testing.T) {
	n := &noise{x: 5}
	s := wide(t)
	m := map[string]string{}
	for i := range 150 {
		m[fmt.Sprint(n.below(1000))] = fmt.Sprint(i)
	}
	x := s.built(m)
	p := planOf(m)
	for i := 0; i < 60 && !t.Failed(); i++ {
		key := fmt.Sprint(n.below(1000))
		way := len(p.path(key))
		values, towers := s.kinds(s.added("8.11: Put", func() { s.puts(x, m, key, fmt.Sprint("new", i)) }))
		if _, there := m[key]; there {
			way-- // the key's own tower stands on the way itself
		}
		if values != 1 || towers > way+1 {
			t.Errorf("8.11: Put(%q) writes %d values and %d towers, with a way of %d", key, values, towers, way)
		}
		key = p.keys[n.below(len(p.keys))]
		way = len(p.path(key)) - 1 // its own tower is no more
		if at := slices.Index(p.keys, key); at > 0 {
			way = max(way, len(p.path(p.keys[at-1])))
		}
		values, towers = s.kinds(s.added("8.11: Delete", func() { s.deletes(x, m, key) }))
		if values != 0 || towers > way {
			t.Errorf("8.11: Delete(%q) writes %d values and %d towers, with ways of %d", key, values, towers, way)
		}
	}
}

// TestTwoStores know nothing of one another.
func TestTwoStores(t *testing.T) {
	one, two := wide(t), wide(t)
	x, m := one.puts(one.empty(), mapOf(), "a", "1")
	two.keyFails("another store's tree", x, "a", api.ErrTree)
	two.checks("another store's tree", x, api.ErrTree)
	y, n := two.puts(two.empty(), mapOf(), "a", "1")
	isTree(t, "8.9: the same map elsewhere", y, api.OK, x)
	y, n = two.puts(y, n, "b", "2")
	one.keyFails("another store's tree", y, "a", api.ErrTree)
	one.holds(x, m)
	two.holds(y, n)
}

// TestManyReadAtOneTime: searches and checks may come from several goroutines.
func TestManyReadAtOneTime(t *testing.T) {
	s := wide(t)
	m := map[string]string{}
	for i := range 40 {
		m[fmt.Sprint(i)] = fmt.Sprint("v", i)
	}
	x := s.built(m)
	var all sync.WaitGroup
	for range 4 {
		all.Go(func() {
			for key, value := range m {
				v, ok, e := skip.Get(s.b, x, []byte(key))
				f, there, e2 := skip.Floor(s.b, x, []byte(key+"\x00"))
				path, e3 := skip.Path(s.b, x, []byte(key))
				if string(v) != value || !ok || e != api.OK || string(f.Key) != key || !there || e2 != api.OK || len(path) < 2 || e3 != api.OK {
					t.Errorf("8.3: Get(%q) = %q, %v, %d among others", key, v, ok, e)
				}
			}
			answers(t, "8.7: Check among others", skip.Check(s.b, x), api.OK)
		})
	}
	all.Wait()
}
