package node_test

import (
	"bytes"
	"slices"
	"strconv"
	"testing"

	"witness/api"
	"witness/node"
)

func TestRootExamples(t *testing.T) {
	for _, c := range []struct {
		l    []api.Entry
		want string
	}{
		{nil, "974d575a"},
		{[]api.Entry{}, "974d575a"},
		{entries("a", "1"), "97ea5762"},
		{entries("a", "1", "b", "2", "c", "3"), "3e601634"},
		{entries("", "", "a", "1", "b", "2", "c", "3", "d", "4", "e", "5", "f", "6", "g", "7"), "f0f26e2c"},
	} {
		if got := front(roots(t, "the examples", c.l)); got != c.want {
			t.Errorf("7.6: Root of %q = %s, want %s", c.l, got, c.want)
		}
	}
	rootFails(t, "b, a", entries("b", "", "a", ""), api.ErrOrder)
	empty, _ := node.Root(nil)
	label := sumOf([]byte{0x12})
	isSum(t, "7.6: Root of no entries", empty, sumOf([]byte{0x14}, make([]byte, 8), label[:]))
}

// TestRootByHand lays a map's texts by hand: the head has the kids c and a, and a has the kid b.
func TestRootByHand(t *testing.T) {
	value := func(v string) api.Sum { return sumOf([]byte{1}, []byte(v)) }
	b := sumOf(leafText([]byte("b"), value("2")))
	a := sumOf(pairText(api.Kid{Level: 0, Key: []byte("b"), Count: 1, Label: b}, sumOf(leafText([]byte("a"), value("1")))))
	c := sumOf(leafText([]byte("c"), value("3")))
	label := sumOf(pairText(api.Kid{Level: 1, Key: []byte("a"), Count: 2, Label: a}, sumOf([]byte{0x12})))
	label = sumOf(pairText(api.Kid{Level: 3, Key: []byte("c"), Count: 1, Label: c}, label))
	got, e := node.Root(entries("a", "1", "b", "2", "c", "3"))
	answers(t, "7.6: Root", e, api.OK)
	isSum(t, "7.6: Root", got, sumOf([]byte{0x14}, long(3), label[:]))
}

func TestRootOfManyLists(t *testing.T) {
	n := &noise{}
	for range 400 {
		roots(t, "a list", n.entries(40))
	}
	for range 5 {
		roots(t, "a long list", n.entries(300))
	}
	for a := range 16 { // all maps of four keys
		l := entries("c", "3", "d", "4", "e", "5", "i", "9")
		i := 0
		roots(t, "some of four", slices.DeleteFunc(l, func(api.Entry) bool { i++; return a>>(i-1)&1 == 0 }))
	}
}

// ofHeight are so many keys of one height, in order.
func ofHeight(height, count int) []string {
	var keys []string
	for i := 100000; len(keys) < count; i++ {
		if key := "q" + strconv.Itoa(i); heightOf([]byte(key)) == height {
			keys = append(keys, key)
		}
	}
	return keys
}

func withValues(keys []string) []api.Entry {
	var l []api.Entry
	for i, key := range keys {
		l = append(l, api.Entry{Key: []byte(key), Value: []byte(strconv.Itoa(i))})
	}
	return l
}

// TestRootOfShapes: chains of towers of one height, stairs up and stairs down.
func TestRootOfShapes(t *testing.T) {
	roots(t, "a chain of the height 1", withValues(ofHeight(1, 200)))
	roots(t, "a chain of the height 3", withValues(ofHeight(3, 100)))
	roots(t, "a chain of the height 6", withValues(ofHeight(6, 50)))
	roots(t, "stairs up", withValues(byLevel))
	roots(t, "stairs up and a chain at the greatest height", withValues(append(slices.Clone(byLevel), higher)))
	roots(t, "a high one first", withValues(append([]string{lowest}, byLevel...)))
	roots(t, "one of the greatest height", withValues([]string{higher}))
	roots(t, "lower ones behind the greatest", withValues([]string{"x6405031", "xa", "xb", higher, "z0", "z1", "z2", "z3"}))
	var down []string
	for height := 8; height > 0; height-- {
		down = append(down, steps(down, height))
	}
	roots(t, "stairs down", withValues(down))
}

// steps is a key of that height behind all that are there.
func steps(l []string, height int) string {
	for i := 0; ; i++ {
		if key := string(rune('a'+len(l))) + strconv.Itoa(i); heightOf([]byte(key)) == height {
			return key
		}
	}
}

// TestRootOfLongChain: towers that lie in one another as deep as the list is long.
func TestRootOfLongChain(t *testing.T) {
	l := withValues(ofHeight(1, 20000))
	label, count := api.Sum{}, uint64(0)
	for _, e := range slices.Backward(l) {
		own := ownOf(api.Tower{Key: e.Key, Value: api.Addr{Sum: sumOf([]byte{1}, e.Value)}})
		if count > 0 {
			own = sumOf(pairText(api.Kid{Key: l[len(l)-int(count)].Key, Count: count, Label: label}, own))
		}
		label, count = own, count+1
	}
	label = sumOf(pairText(api.Kid{Key: l[0].Key, Count: count, Label: label}, sumOf([]byte{0x12})))
	got, e := node.Root(l)
	answers(t, "7.6: Root of a long chain", e, api.OK)
	isSum(t, "7.6: Root of a long chain", got, sumOf([]byte{0x14}, long(count), label[:]))
}

func TestRootLimits(t *testing.T) {
	key, value := bytes.Repeat([]byte("k"), 1025), bytes.Repeat([]byte("v"), 65537)
	one := func(k, v int) []api.Entry { return []api.Entry{{Key: key[:k], Value: value[:v]}} }
	roots(t, "the longest key and value", one(1024, 65536))
	roots(t, "the longest key", one(1024, 0))
	roots(t, "the longest value", one(0, 65536))
	rootFails(t, "a key one byte too long", one(1025, 0), api.ErrLimit)
	rootFails(t, "a value one byte too long", one(0, 65537), api.ErrLimit)
	rootFails(t, "both too long", one(1025, 65537), api.ErrLimit)
}

func TestRootOrders(t *testing.T) {
	rootFails(t, "two alike", entries("a", "1", "a", "1"), api.ErrOrder)
	rootFails(t, "two empty keys", []api.Entry{{Key: nil}, {Key: []byte{}}}, api.ErrOrder)
	rootFails(t, "the empty key behind another", entries("a", "1", "", ""), api.ErrOrder)
	rootFails(t, "the last two the wrong way round", entries("a", "1", "c", "3", "b", "2"), api.ErrOrder)
	rootFails(t, "one that the next one begins with, behind it", entries("ab", "1", "a", "2"), api.ErrOrder)
	rootFails(t, "bytes with sign", entries("\x80", "1", "\x7f", "2"), api.ErrOrder)
	roots(t, "bytes without sign", entries("\x7f", "1", "\x80", "2"))
	roots(t, "one that the next one begins with", entries("a", "1", "a\x00", "2"))
}

// TestRootTellsTheFirst: the first entry of which something holds ends it, and of one entry ErrLimit goes ahead.
func TestRootTellsTheFirst(t *testing.T) {
	long, big := api.Entry{Key: bytes.Repeat([]byte("z"), 1025)}, api.Entry{Key: []byte("zz"), Value: make([]byte, 65537)}
	low, lowBig := api.Entry{Key: []byte("a")}, api.Entry{Key: []byte("a"), Value: make([]byte, 65537)}
	lowLong := api.Entry{Key: bytes.Repeat([]byte("a"), 1025)}
	start := entries("b", "1", "c", "2")
	for _, c := range []struct {
		what string
		then []api.Entry
		want api.Errno
	}{
		{"too long a key, then the order", []api.Entry{long, low}, api.ErrLimit},
		{"too long a value, then the order", []api.Entry{big, low}, api.ErrLimit},
		{"the order, then too long a key", []api.Entry{low, long}, api.ErrOrder},
		{"the order, then too long a value", []api.Entry{low, big}, api.ErrOrder},
		{"the order and too long a value at one", []api.Entry{lowBig}, api.ErrLimit},
		{"the order and too long a key at one", []api.Entry{lowLong}, api.ErrLimit},
		{"all at once, behind the order", []api.Entry{low, lowBig, lowLong}, api.ErrOrder},
		{"the order at the last one", []api.Entry{{Key: []byte("d")}, {Key: []byte("d")}}, api.ErrOrder},
	} {
		rootFails(t, c.what, append(slices.Clone(start), c.then...), c.want)
	}
	rootFails(t, "too long a key at the first one, then the order", []api.Entry{long, low}, api.ErrLimit)
	rootFails(t, "too long a value at the first one, then the order", []api.Entry{big, low}, api.ErrLimit)
}

// changed is a list that is another one by one step.
func (n *noise) changed(l []api.Entry) []api.Entry {
	l = slices.Clone(l)
	i := n.below(len(l))
	switch n.below(4) {
	case 0:
		l[i].Value = append(slices.Clone(l[i].Value), 0)
	case 1:
		l = slices.Delete(l, i, i+1)
	case 2:
		l[i].Key = append(slices.Clone(l[i].Key), 1, 2, 3)
	case 3:
		l = append(l, api.Entry{Key: []byte{255, 255, 255, 255, 255, 0}, Value: n.text(2)})
	}
	return l
}

// TestRootHangsOnTheListAlone: one list, one label; another list, another label.
func TestRootHangsOnTheListAlone(t *testing.T) {
	n := &noise{}
	for range 200 {
		l := append(n.entries(20), api.Entry{Key: []byte{255, 255, 255, 255, 255}})
		label := roots(t, "a list", l)
		var again []api.Entry
		for _, e := range l {
			again = append(again, api.Entry{Key: bytes.Clone(e.Key), Value: bytes.Clone(e.Value)})
		}
		isSum(t, "7.7: Root of the same list", roots(t, "the same list", again), label)
		other := n.changed(l)
		if got, e := node.Root(other); e == api.OK && got == label {
			t.Errorf("7.7: one label of %v and %v", l, other)
		}
	}
	isSum(t, "7.7: Root of nil texts", roots(t, "nil texts", []api.Entry{{}}), roots(t, "empty texts", entries("", "")))
}

// TestRootOfStoredTowers: the label of the head that is saved and loaded again makes the same root label.
func TestRootOfStoredTowers(t *testing.T) {
	n := &noise{}
	for range 20 {
		s := newStore(t)
		l := n.entries(30)
		h := s.saved(t, l, heightsOf(l), -1)
		got, e := node.Load(s.b, h)
		answers(t, "7.5: Load of the head", e, api.OK)
		if node.Count(got) != uint64(len(l)) {
			t.Errorf("7.3: Count of the head = %d, want %d", node.Count(got), len(l))
		}
		isSum(t, "7.6: the stored head's label", sumOf(node.RootText(node.Count(got), node.Label(got))), roots(t, "a list", l))
	}
}

// saved saves the i-th entry's tower behind all that hangs at it.
func (s store) saved(t *testing.T, l []api.Entry, heights []int, i int) api.Addr {
	tower := towerOf(l, heights, i)
	for k := range tower.Kids {
		j := slices.IndexFunc(l, func(e api.Entry) bool { return bytes.Equal(e.Key, tower.Kids[k].Key) })
		tower.Kids[k].Addr = s.saved(t, l, heights, j)
		kid, e := node.Load(s.b, tower.Kids[k].Addr)
		answers(t, "7.5: Load of a kid", e, api.OK)
		isSum(t, "7.3: a kid's label", node.Label(kid), tower.Kids[k].Label)
		if node.Count(kid) != tower.Kids[k].Count {
			t.Errorf("7.3: a kid's count is %d, want %d", node.Count(kid), tower.Kids[k].Count)
		}
	}
	return s.saves(t, "a tower of a map", tower)
}
