package skip_test

import (
	"fmt"
	"slices"
	"strings"
	"testing"

	"witness/api"
	"witness/skip"
)

const (
	longKey   = api.MaxKey
	longValue = api.MaxValue
)

func keyOf(length int) string { return strings.Repeat("k", length) }

func TestLimits(t *testing.T) {
	s := wide(t)
	x, m := s.puts(s.empty(), mapOf(), "a", "1")
	p := planOf(m)
	s.searches(x, p, keyOf(longKey))
	s.deletes(x, m, keyOf(longKey))
	y, n := s.puts(x, m, keyOf(longKey), strings.Repeat("v", longValue))
	s.holds(y, n, keyOf(longKey-1))
	back, _ := s.deletes(y, n, keyOf(longKey))
	isTree(t, "8.6: without the longest key", back, api.OK, x)

	wrong := x
	wrong.Count++
	trees := map[string]api.Tree{"a tree": x, "a tree that does not fit": wrong, "no tree": {}}
	refuses := func(when string) {
		for name, tree := range trees {
			what := name + when
			s.keyFails(what, tree, keyOf(longKey+1), api.ErrLimit)
			s.unchanged("8.2: "+what, func() {
				s.putFails(what, tree, "a", strings.Repeat("v", longValue+1), api.ErrLimit)
				s.putFails(what, tree, keyOf(longKey+1), strings.Repeat("v", longValue+1), api.ErrLimit)
				s.putFails(what, tree, keyOf(longKey+1), "", api.ErrLimit)
			})
		}
	}
	refuses("")
	s.off()
	refuses(", with the power gone")
}

// probes are keys at, just ahead of and just behind each key.
func probes(keys []string) []string {
	l := []string{"", "\x00", "\xff\xff\xff\xff"}
	for _, key := range keys {
		l = append(l, key, key+"\x00", key+"\xff")
		if key != "" {
			last := len(key) - 1
			l = append(l, key[:last], key[:last]+string([]byte{key[last] - 1})+"\xff")
		}
	}
	return l
}

func TestSearches(t *testing.T) {
	tall := map[string]string{lowest: "low", higher: "high"}
	for level, key := range byLevel {
		tall[key] = fmt.Sprint(level)
	}
	equal := map[string]string{"": "nothing ahead", "zz": ""}
	for _, key := range append(keysOf(1, 4, "a"), keysOf(3, 3, "b")...) {
		equal[key] = key
	}
	for _, m := range []map[string]string{nil, mapOf("", ""), mapOf("", "e"), mapOf("m", "1"), mapOf("a", "1", "b", "2", "c", "3", "d", "4", "e", "5"), equal, tall} {
		s := wide(t)
		p := planOf(m)
		s.holds(s.built(m), m, probes(p.keys)...)
	}
}

// TestTheEmptyKey: the head has no key, not the empty one.
func TestTheEmptyKey(t *testing.T) {
	s, l := grown(t)
	s.gets(l[3], "", "", false)
	s.unchanged("8.6: the empty key is not there", func() { s.deletes(l[3], mapOf("a", "1", "b", "2", "c", "3"), "") })
	x, m := s.puts(l[3], mapOf("a", "1", "b", "2", "c", "3"), "", "")
	s.gets(x, "", "", true)
	v, ok, e := skip.Get(s.b, x, nil)
	if len(v) != 0 || !ok || e != api.OK {
		t.Errorf("8.3: Get(nil) = %q, %v, %d", v, ok, e)
	}
	s.floors(x, "", api.Entry{}, true)
	s.holds(x, m, "\x00")
	y, e := skip.Put(s.b, x, nil, nil)
	isTree(t, "8.5: a nil key and value are empty ones", y, e, x)
	s.deletes(x, m, "")
}

// falseTrees are none, by what is wrong with them.
func falseTrees(s store, l []api.Tree) map[string]api.Tree {
	value := l[3]
	value.Addr = valueAddr("1")
	tower := l[3]
	tower.Addr = towerAddr(planOf(mapOf("a", "1", "b", "2", "c", "3")).towers["c"])
	trees := map[string]api.Tree{"no tree": {}, "a value's address": value, "the address of a tower that is no head": tower}
	own := planOf(mapOf("a", "1")).towers["a"] // as if it were a head
	label := labelOf(own)
	trees["a tower in the head's place"] = api.Tree{Addr: towerAddr(own), Count: 1, Label: sumOf([]byte{0x14}, long(1), label[:])}
	garbage := l[0]
	garbage.Addr = s.put(api.KindTower, []byte{1, 0, 0})
	trees["a blob that is no tower"] = garbage
	for i, other := range []api.Tree{l[0], l[2], {Count: 4, Label: fill('l'), Addr: api.Addr{Sum: fill('a')}}} {
		x, y, z, nth := l[3], l[3], l[3], l[3]
		x.Count, y.Label, z.Addr = other.Count, other.Label, other.Addr
		nth.Addr.Nth++
		trees[fmt.Sprintf("another count %d", i)] = x
		trees[fmt.Sprintf("another label %d", i)] = y
		trees[fmt.Sprintf("another address %d", i)] = z
		trees[fmt.Sprintf("another Nth %d", i)] = nth
	}
	for bit := range 256 {
		x := l[3]
		x.Label[bit/8] ^= 1 << (bit % 8)
		trees[fmt.Sprintf("the label's bit %d", bit)] = x
	}
	return trees
}

func TestFalseTrees(t *testing.T) {
	s, l := grown(t)
	for what, x := range falseTrees(s, l) {
		for _, key := range []string{"", "a", "b", "c", "zz"} {
			s.keyFails(what, x, key, api.ErrTree)
		}
		s.checks(what, x, api.ErrTree)
	}
	s.holds(l[3], mapOf("a", "1", "b", "2", "c", "3"))
}

// misfits are kids that do not fit, made of one that does.
func misfits(s store, k api.Kid) map[string]api.Kid {
	l := map[string]api.Kid{}
	add := func(what string, change func(k *api.Kid)) {
		changed := k
		change(&changed)
		l[what] = changed
	}
	head := s.tree()
	other := s.tower(string(k.Key) + "\xff")
	value := s.value("a value")
	none := s.put(api.KindTower, []byte("no tower"))
	add("an address that is not there", func(k *api.Kid) { k.Addr.Sum[31]++ })
	add("an Nth that is not there", func(k *api.Kid) { k.Addr.Nth++ })
	add("the address of a head", func(k *api.Kid) { k.Addr = head.Addr })
	add("the address of another key's tower", func(k *api.Kid) { k.Addr = other.Addr })
	add("another key's tower, label and count", func(k *api.Kid) { k.Addr, k.Label, k.Count = other.Addr, other.Label, other.Count })
	add("the address of a value", func(k *api.Kid) { k.Addr = value })
	add("the address of a blob that is no tower", func(k *api.Kid) { k.Addr = none })
	add("a greater count", func(k *api.Kid) { k.Count++ })
	add("another label", func(k *api.Kid) { k.Label[0] ^= 1 })
	return l
}

// TestKidsThatDoNotFit: on the way, and beside it.
func TestKidsThatDoNotFit(t *testing.T) {
	s := wide(t)
	m := mapOf("a", "1", "b", "2", "c", "3", "d", "4", "e", "5") // c (4) over the others; d and e (1, 3) at c, a (2) at the head, b (1) at a
	p := planOf(m)
	x := s.built(m)
	for what, k := range misfits(s, p.head.Kids[1]) {
		h := s.tree(p.head.Kids[0], k)
		s.keyFails(what, h, "a", api.ErrTree)
		s.keyFails(what, h, "b", api.ErrTree)
		s.checks(what, h, api.ErrTree)
		for _, key := range []string{"c", "d", "e", "f"} {
			want := p.path(key)
			want[0] = api.Tower{Head: true, Kids: []api.Kid{p.head.Kids[0], k}}
			s.paths(h, key, want...)
			s.gets(h, key, m[key], m[key] != "")
			_, e := skip.Put(s.b, h, []byte(key), []byte("new"))
			answers(t, "8.8: "+what+" beside the way: Put of "+key, e, api.OK)
		}
		s.paths(h, "", api.Tower{Head: true, Kids: []api.Kid{p.head.Kids[0], k}})
		s.deleteFails(what, h, "c", api.ErrTree) // its tower's parent leads to a
		y, was, e := skip.Delete(s.b, h, []byte("e"))
		if e != api.OK || !was {
			t.Errorf("8.8: %s beside both ways: Delete(e) = %s, %v, %d", what, told(y), was, e)
		}
		s.unchanged("8.8: "+what, func() {
			y, was, e := skip.Delete(s.b, h, []byte("cc"))
			isTree(t, "8.8: "+what+" beside the way of a key that is not there", y, e, h)
			if was {
				t.Errorf("8.8: %s: Delete(cc) tells true", what)
			}
		})
	}
	s.holds(x, m)
}

// TestKidsThatDoNotFitBelow: the tower that names them is no head.
func TestKidsThatDoNotFitBelow(t *testing.T) {
	s := wide(t)
	m := mapOf("a", "1", "b", "2", "c", "3", "d", "4", "e", "5")
	p := planOf(m)
	s.built(m)
	c := p.towers["c"]
	for i, key := range []string{"e", "d"} {
		for what, k := range misfits(s, c.Kids[i]) {
			below := slices.Clone(c.Kids)
			below[i] = k
			h := s.tree(s.laid(api.Tower{Key: c.Key, Value: c.Value, Kids: below}), p.head.Kids[1])
			s.keyFails(what, h, key, api.ErrTree)
			s.keyFails(what, h, key+"x", api.ErrTree)
			s.checks(what, h, api.ErrTree)
			for _, other := range []string{"a", "b", "c"} {
				s.gets(h, other, m[other], true)
			}
			if key == "d" {
				s.gets(h, "e", "5", true)
				s.deleteFails(what, h, "e", api.ErrTree)
			} else {
				s.gets(h, "d", "4", true)
				_, was, e := skip.Delete(s.b, h, []byte("d"))
				if !was || e != api.OK {
					t.Errorf("8.8: %s beside both ways: Delete(d) = %v, %d", what, was, e)
				}
			}
		}
	}
}

// TestAHeadAsAKid: it has the empty key, as it were, and the kid's count and label.
func TestAHeadAsAKid(t *testing.T) {
	s := wide(t)
	below := api.Tower{Head: true, Kids: []api.Kid{s.tower("a")}}
	k := s.laid(below)
	if k.Level != 0 || k.Count != 1 {
		t.Fatalf("the kid is %v", k)
	}
	x := s.tree(k)
	for _, key := range []string{"", "a", "zz"} {
		s.keyFails("a head as a kid", x, key, api.ErrTree)
	}
	s.checks("a head as a kid", x, api.ErrTree)
}

// TestPowerGone: every call of a tree that is there.
func TestPowerGone(t *testing.T) {
	s, l := grown(t)
	s.off()
	for _, x := range l {
		for _, key := range []string{"", "a", "zz"} {
			s.keyFails("with the power gone", x, key, api.ErrPower)
		}
		s.checks("with the power gone", x, api.ErrPower)
	}
	none := l[3]
	none.Addr.Nth = 9
	s.keyFails("with the power gone, of an address that is not there", none, "a", api.ErrTree)
	s.checks("with the power gone, of an address that is not there", none, api.ErrTree)
	s.on()
	s.holds(l[3], mapOf("a", "1", "b", "2", "c", "3"))
}
