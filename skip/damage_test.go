package skip_test

import (
	"bytes"
	"fmt"
	"maps"
	"slices"
	"strings"
	"testing"

	"witness/api"
	"witness/skip"
)

// garden is a store in which towers are made by hand; it knows all of them.
type garden struct {
	store
	towers map[api.Addr]api.Tower
	values map[api.Addr]string // those that can be loaded
}

func newGarden(t *testing.T) garden {
	t.Helper()
	return garden{wide(t), map[api.Addr]api.Tower{}, map[api.Addr]string{}}
}

func (g garden) grow(tower api.Tower) api.Kid {
	g.t.Helper()
	k := g.laid(tower)
	g.towers[k.Addr] = tower
	return k
}

func (g garden) seed(text string) api.Addr {
	g.t.Helper()
	a := g.value(text)
	g.values[a] = text
	return a
}

func (g garden) crown(kids ...api.Kid) api.Tree {
	g.t.Helper()
	x := g.tree(kids...)
	g.towers[x.Addr] = api.Tower{Head: true, Kids: kids}
	return x
}

// fits is the tower of a kid that fits, by the chapter's words.
func (g garden) fits(k api.Kid) (api.Tower, bool) {
	t, there := g.towers[k.Addr]
	return t, there && !t.Head && bytes.Equal(t.Key, k.Key) && countOf(t) == k.Count && labelOf(t) == k.Label
}

// way goes again and again to the kid with the greatest key that is taken; false: one of the kids does not fit.
func (g garden) way(from api.Tower, taken func(key string) bool) ([]api.Tower, bool) {
	way := []api.Tower{from}
	for {
		var best *api.Kid
		for _, k := range way[len(way)-1].Kids {
			if taken(string(k.Key)) && (best == nil || string(k.Key) > string(best.Key)) {
				best = &k
			}
		}
		if best == nil {
			return way, true
		}
		t, ok := g.fits(*best)
		if !ok {
			return nil, false
		}
		way = append(way, t)
	}
}

func (g garden) wayOf(x api.Tree, key string) ([]api.Tower, bool) {
	return g.way(g.towers[x.Addr], func(k string) bool { return k <= key })
}

// whole tells whether all that hangs at a kid is as a whole tree has it; its keys must be less than the bound, if it is not nil.
func (g garden) whole(k api.Kid, bound []byte) bool {
	t, ok := g.fits(k)
	if !ok || bound != nil && string(t.Key) >= string(bound) {
		return false
	}
	value, there := g.values[t.Value]
	return there && len(value) <= api.MaxValue && g.wholeKids(t, bound)
}

func (g garden) wholeKids(t api.Tower, bound []byte) bool {
	for i, k := range t.Kids {
		if i > 0 {
			bound = t.Kids[i-1].Key
		}
		if !g.whole(k, bound) {
			return false
		}
	}
	return true
}

// mapOf is what a whole tree has.
func (g garden) mapOf(t api.Tower, m map[string]string) {
	if !t.Head {
		m[string(t.Key)] = g.values[t.Value]
	}
	for _, k := range t.Kids {
		g.mapOf(g.towers[k.Addr], m)
	}
}

// holdSearches holds Get, Floor and Path against the way alone.
func (g garden) holdSearches(x api.Tree, key string) {
	g.t.Helper()
	way, ok := g.wayOf(x, key)
	if !ok {
		g.searchesFail("a kid on the way", x, key, api.ErrTree)
		return
	}
	g.paths(x, key, way...)
	last := way[len(way)-1]
	value, loads := g.values[last.Value]
	own := !last.Head && string(last.Key) == key
	switch {
	case !own:
		g.gets(x, key, "", false)
	case loads:
		g.gets(x, key, value, true)
	default:
		g.getFails("the value cannot be loaded", x, key, api.ErrTree)
	}
	switch {
	case last.Head:
		g.floors(x, key, api.Entry{}, false)
	case loads:
		g.floors(x, key, api.Entry{Key: last.Key, Value: []byte(value)}, true)
	default:
		f, ok, e := skip.Floor(g.b, x, []byte(key))
		if f.Key != nil || f.Value != nil || ok || e != api.ErrTree {
			g.t.Errorf("8.4: Floor of a value that cannot be loaded = %v, %v, %d", f, ok, e)
		}
	}
}

// holdPut holds a Put into a tree that is not whole against the way alone.
func (g garden) holdPut(x api.Tree, key, value string) {
	g.t.Helper()
	if _, ok := g.wayOf(x, key); !ok {
		g.unchanged("8.8: Put", func() { g.putFails("a kid on the way", x, key, value, api.ErrTree) })
		return
	}
	_, e := skip.Put(g.b, x, []byte(key), []byte(value))
	answers(g.t, fmt.Sprintf("8.8: Put(%q) into a tree that is not whole", key), e, api.OK)
}

// holdDelete is alike, by the two ways.
func (g garden) holdDelete(x api.Tree, key string) {
	g.t.Helper()
	way, ok := g.wayOf(x, key)
	own := ok && len(way) > 1 && string(way[len(way)-1].Key) == key
	if own {
		_, ok = g.way(way[len(way)-2], func(k string) bool { return k < key })
	}
	if !ok {
		g.unchanged("8.8: Delete", func() { g.deleteFails("a kid on one of the ways", x, key, api.ErrTree) })
		return
	}
	if own {
		_, was, e := skip.Delete(g.b, x, []byte(key))
		if !was || e != api.OK {
			g.t.Errorf("8.8: Delete(%q) from a tree that is not whole = %v, %d", key, was, e)
		}
		return
	}
	g.unchanged("8.8: Delete of a key that is not there", func() {
		y, was, e := skip.Delete(g.b, x, []byte(key))
		isTree(g.t, "8.8: Delete of a key that is not there", y, e, x)
		if was {
			g.t.Errorf("8.8: Delete(%q) tells true", key)
		}
	})
}

// hold holds all calls of a tree that was made by hand against the chapter's words.
func (g garden) hold(x api.Tree, keys []string) bool {
	g.t.Helper()
	head := g.towers[x.Addr]
	whole := g.wholeKids(head, nil)
	m := map[string]string{}
	if whole {
		g.mapOf(head, m)
		g.holds(x, m)
		g.checks("a whole tree, made by hand", x, api.OK)
	} else {
		g.checks("a tree that is not whole", x, api.ErrTree)
	}
	for _, key := range keys {
		g.holdSearches(x, key)
		if whole {
			g.puts(x, m, key, "new")
			g.deletes(x, m, key)
		} else {
			g.holdPut(x, key, "new")
			g.holdPut(x, key, key)
			g.holdDelete(x, key)
		}
	}
	return whole
}

// pick is a value: mostly one that can be loaded.
func (g garden) pick(n *noise, key string) api.Addr {
	switch n.below(30) {
	case 0:
		return api.Addr{Sum: sumOf([]byte{1}, []byte("not there "+key))}
	case 1:
		return g.put(api.KindLeaf, []byte("no value"))
	case 2:
		return g.seed(strings.Repeat("v", api.MaxValue+1))
	case 3:
		return g.seed(strings.Repeat("v", api.MaxValue))
	}
	return g.seed(key)
}

// bend makes a kid one that does not fit, now and then.
func (n *noise) bend(k api.Kid, all []api.Kid) api.Kid {
	other := all[n.below(len(all))]
	switch n.below(60) {
	case 0:
		k.Addr = other.Addr
	case 1:
		k.Addr.Nth++
	case 2:
		k.Count = other.Count
	case 3:
		k.Label = other.Label
	case 4:
		k.Addr, k.Count, k.Label = other.Addr, other.Count, other.Label
	}
	return k
}

// kids are some of those that are there, such as a tower can have; what hangs at them may lie anywhere.
func (n *noise) kids(all []api.Kid, key string, height int) []api.Kid {
	var l []api.Kid
	level, bound := height-1, "\xff"
	for range 6 {
		if len(all) == 0 {
			break
		}
		k := all[n.below(len(all))]
		if k.Level <= level && string(k.Key) < bound && string(k.Key) > key {
			l = append(l, n.bend(k, all))
			level, bound = k.Level-1, string(k.Key)
		}
	}
	return l
}

// TestTreesByHand: towers of which any hang at any.
func TestTreesByHand(t *testing.T) {
	keys := append(keysOf(1, 4, "a"), slices.Concat(keysOf(2, 3, "a"), keysOf(3, 2, "b"), keysOf(1, 3, "c"), keysOf(4, 2, "c"))...)
	slices.Sort(keys)
	n := &noise{x: 8}
	whole := 0
	for round := 0; round < 60 && !t.Failed(); round++ {
		g := newGarden(t)
		var all []api.Kid
		for _, key := range slices.Backward(keys) {
			all = append(all, g.grow(api.Tower{Key: []byte(key), Value: g.pick(n, key), Kids: n.kids(all, key, heightOf(key))}))
		}
		for range 3 {
			x := g.crown(n.kids(all, "", 24)...)
			if g.hold(x, append(n.shuffled(keys)[:5], "", "b", "zz")) {
				whole++
			}
		}
	}
	if whole == 0 || whole == 180 {
		t.Errorf("8.7: %d of 180 trees are whole", whole)
	}
}

// TestWholeTreesBent: one tower of a whole tree is another one, and all above it is made anew.
func TestWholeTreesBent(t *testing.T) {
	n := &noise{x: 88}
	whole := 0
	for round := 0; round < 80 && !t.Failed(); round++ {
		m := map[string]string{}
		for len(m) < 8 {
			key := n.key()
			m[key] = key
		}
		g := newGarden(t)
		p := planOf(m)
		var all []api.Kid
		for _, tower := range p.towers {
			all = append(all, g.grow(tower))
		}
		slices.SortFunc(all, func(a, b api.Kid) int { return bytes.Compare(a.Key, b.Key) })
		var bent func(t api.Tower) api.Tower
		bent = func(t api.Tower) api.Tower {
			if !t.Head {
				t.Value = g.pick(n, string(t.Key))
			}
			t.Kids = slices.Clone(t.Kids)
			for i, k := range t.Kids {
				t.Kids[i] = n.bend(g.grow(bent(g.towers[k.Addr])), all)
			}
			return t
		}
		x := g.crown(bent(p.head).Kids...)
		if g.hold(x, append(slices.Sorted(maps.Keys(m)), n.key(), n.key(), "zz")) {
			whole++
		}
	}
	if whole == 0 || whole == 80 {
		t.Errorf("8.7: %d of 80 trees are whole", whole)
	}
}

// TestDamageAtEachBlob: a bit turns in each blob of a tree, one after the other.
func TestDamageAtEachBlob(t *testing.T) {
	m := map[string]string{}
	for height := 1; height <= 4; height++ {
		for _, key := range keysOf(height, 2, fmt.Sprint("k", height%3)) {
			m[key] = "value of " + key
		}
	}
	p := planOf(m)
	for i, a := range p.order {
		g := newGarden(t)
		x := g.built(m)
		for _, tower := range p.towers {
			g.towers[towerAddr(tower)] = tower
			g.values[tower.Value] = m[string(tower.Key)]
		}
		g.towers[x.Addr] = p.head
		g.turn(a)
		delete(g.towers, a)
		delete(g.values, a)
		if a == x.Addr {
			g.keyFails("a damaged head", x, p.keys[0], api.ErrTree)
			g.checks("a damaged head", x, api.ErrTree)
			continue
		}
		g.checks(fmt.Sprintf("the blob %d is damaged", i), x, api.ErrTree)
		for _, key := range append(slices.Clone(p.keys), "", "zz") {
			g.holdSearches(x, key)
			g.holdPut(x, key, "new")
			if _, ok := g.wayOf(x, key); ok && valueAddr(m[key]) == a {
				g.putFails("the damaged value again", x, key, m[key], api.ErrCheck)
			} else {
				g.holdPut(x, key, "value of "+key)
			}
			// What a Delete needs may be there and be damaged: then it is refused by that.
			if _, _, e := skip.Delete(g.b, x, []byte(key)); e != api.ErrCheck {
				g.holdDelete(x, key)
			}
		}
	}
}

// TestAValueThatIsNotThere: such a tree is not whole, but its towers fit.
func TestAValueThatIsNotThere(t *testing.T) {
	g := newGarden(t)
	k := g.grow(api.Tower{Key: []byte("k"), Value: valueAddr("v")})
	x := g.crown(k)
	g.checks("a value that is not there", x, api.ErrTree)
	g.holdSearches(x, "k")
	g.holdPut(x, "k", "other")
	g.holdDelete(x, "k")
	y, e := skip.Put(g.b, x, []byte("k"), []byte("v"))
	answers(t, "8.8: Put of the value that is not there", e, api.OK)
	isTree(t, "8.8: Put of the value that is not there", y, e, x) // the answer is free, but this one is the map's
	g.checks("the value is there again", x, api.OK)
}

// TestKeysBeyondTheirBounds: all fits, but what hangs at a kid reaches over the next one. (That one's own key is too high to hang there a second time.)
func TestKeysBeyondTheirBounds(t *testing.T) {
	key := func(height int, front string) string { return keysOf(height, 1, front)[0] }
	first, next := key(2, "b"), key(3, "m")
	for _, c := range []struct {
		what  string
		hangs []string // below the first kid, each at the one ahead
		whole bool
	}{
		{"nothing hangs at it", nil, true},
		{"a key ahead of the next kid's", []string{key(1, "c")}, true},
		{"a key behind the next kid's", []string{key(1, "n")}, false},
		{"keys ahead of it", []string{key(2, "c"), key(2, "d"), key(1, "e")}, true},
		{"keys ahead of it, and then one behind it", []string{key(2, "c"), key(2, "d"), key(1, "n")}, false},
		{"keys behind it", []string{key(2, "n"), key(2, "o")}, false},
	} {
		g := newGarden(t)
		var kids []api.Kid
		for _, key := range slices.Backward(append([]string{first}, c.hangs...)) {
			kids = []api.Kid{g.grow(api.Tower{Key: []byte(key), Value: g.seed(key), Kids: kids})}
		}
		second := g.grow(api.Tower{Key: []byte(next), Value: g.seed(next)})
		x := g.crown(second, kids[0])
		if g.hold(x, append(probes(append(c.hangs, first, next)), key(1, "f"), key(4, "f"), key(4, "z"))) != c.whole {
			t.Errorf("8.7: %s: the test and its words are at odds", c.what)
		}
	}
}

// TestATowerThatHangsTwice: at two towers, and as it fits.
func TestATowerThatHangsTwice(t *testing.T) {
	g := newGarden(t)
	grow := func(key string, kids ...api.Kid) api.Kid {
		return g.grow(api.Tower{Key: []byte(key), Value: g.seed(key), Kids: kids})
	}
	same := grow(keysOf(1, 1, "z")[0])
	one, two := keysOf(2, 1, "b")[0], keysOf(3, 1, "m")[0]
	x := g.crown(grow(two, same), grow(one, same))
	if g.hold(x, append(probes([]string{one, two, string(same.Key)}), keysOf(4, 1, "c")[0], keysOf(4, 1, "n")[0])) {
		t.Errorf("8.7: a tree in which a key hangs twice is whole")
	}
}

// TestNoRoomForTheNewTower: towers that fit, of which no valid ones can be made: the answer is a tree all the same.
func TestNoRoomForTheNewTower(t *testing.T) {
	g := newGarden(t)
	grow := func(key string, kids ...api.Kid) api.Kid {
		return g.grow(api.Tower{Key: []byte(key), Value: g.seed(key), Kids: kids})
	}
	is := func(what string, e api.Errno) {
		t.Helper()
		answers(t, "8.8: "+what, e, api.OK)
	}
	// As many keys as can be counted, of which all but one are not there.
	many := grow("c")
	many.Count = 1<<62 - 1
	x := g.crown(many, grow("a"))
	_, e := skip.Put(g.b, x, []byte("b"), nil)
	is("one key more than can be counted", e)
	_, e = skip.Put(g.b, x, []byte("a"), nil)
	is("as many keys as can be counted", e)
	g.keyFails("a count that is not the tower's", x, "c", api.ErrTree)
	g.checks("a count that is not the tower's", x, api.ErrTree)

	// What a new key would take over does not rise.
	keys := keysOf(1, 3, "m")
	far := keysOf(1, 1, "z")[0]
	mid := keysOf(2, 1, "p")[0]
	front := keysOf(1, 1, "a")[0]
	x = g.crown(grow(mid), grow(front, grow(far)))
	tall := keysOf(3, 1, "c")[0]
	y, e := skip.Put(g.b, x, []byte(tall), nil)
	is("kids whose keys do not rise", e)
	isTree(t, "8.8: the tree that cannot take the key stays", y, api.OK, x)
	g.hold(x, append(keys, front, far, mid, tall, "", "zz"))

	// What a key leaves behind would hang where something hangs already.
	x = g.crown(grow(tall, grow(keysOf(1, 1, "d")[0])), grow(front, grow(far)))
	y, was, e := skip.Delete(g.b, x, []byte(tall))
	is("two kids at one level", e)
	isTree(t, "8.8: the tree that cannot lose the key stays", y, api.OK, x)
	if !was {
		t.Errorf("8.8: Delete of a key that is there tells false")
	}
	g.hold(x, append(keys, front, far, mid, tall, "", "zz"))
}

// TestCheckEnds: towers that hang together in more ways than can be gone.
func TestCheckEnds(t *testing.T) {
	g := newGarden(t)
	var rows [][]api.Kid
	for row := 30; row > 0; row-- {
		var kids []api.Kid
		for level := range 9 {
			var below []api.Kid
			if len(rows) > 0 {
				below = slices.Clone(rows[len(rows)-1][:level+1])
				slices.Reverse(below)
			}
			key := keysOf(level+1, 1, fmt.Sprintf("%02d%d", row, level))[0]
			kids = append(kids, g.tower(key, below...))
		}
		rows = append(rows, kids)
	}
	top := slices.Clone(rows[len(rows)-1])
	slices.Reverse(top)
	x := g.tree(top...)
	if x.Count < 1<<26 {
		t.Fatalf("the tree has only %d keys", x.Count)
	}
	g.checks("a thicket", x, api.ErrTree)
	for _, key := range []string{"", "01", "1", "2", "9"} {
		path, e := skip.Path(g.b, x, []byte(key))
		answers(t, "8.8: Path in a thicket", e, api.OK)
		if len(path) > 31 {
			t.Errorf("8.8: a way of %d towers", len(path))
		}
		_, e = skip.Put(g.b, x, []byte(key), nil)
		answers(t, "8.8: Put into a thicket", e, api.OK)
		if len(path) > 1 {
			_, _, e = skip.Delete(g.b, x, path[len(path)-1].Key)
			answers(t, "8.8: Delete out of a thicket", e, api.OK)
		}
	}
}

// TestALongWay: keys of one height hang each at the one ahead.
func TestALongWay(t *testing.T) {
	g := newGarden(t)
	keys := keysOf(1, 3000, "k")
	m := map[string]string{}
	var kids []api.Kid
	for _, key := range slices.Backward(keys) {
		kids = []api.Kid{g.tower(key, kids...)}
		m[key] = key
	}
	x := g.tree(kids...)
	g.checks("a long way", x, api.OK)
	last := keys[len(keys)-1]
	path, e := skip.Path(g.b, x, []byte(last))
	if len(path) != len(keys)+1 || e != api.OK {
		t.Errorf("8.4: a way of %d towers, %d, want %d", len(path), e, len(keys)+1)
	}
	y, e := skip.Put(g.b, x, []byte(last), []byte("new"))
	answers(t, "8.5: Put at the end of a long way", e, api.OK)
	g.gets(y, last, "new", true)
	y, was, e := skip.Delete(g.b, x, []byte(keys[0]))
	if !was || e != api.OK || y.Count != uint64(len(keys)-1) {
		t.Errorf("8.6: Delete of the first one: %s, %v, %d", told(y), was, e)
	}
	tall := keysOf(2, 1, keys[1500])[0]
	y, e = skip.Put(g.b, x, []byte(tall), nil)
	answers(t, "8.5: Put amid a long way", e, api.OK)
	g.checks("a long way", y, api.OK)
	g.gets(y, last, last, true)
}
