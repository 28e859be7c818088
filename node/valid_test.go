package node_test

import (
	"math"
	"slices"
	"testing"

	"witness/api"
	"witness/node"
)

func TestValidTowers(t *testing.T) {
	valid(t, "the head", head(), api.OK)
	valid(t, "the head with an empty key", api.Tower{Head: true, Key: []byte{}}, api.OK)
	valid(t, "the head with all kids", fullHead(), api.OK)
	valid(t, "the zero tower", api.Tower{}, api.OK)
	valid(t, "a tower", tower("k"), api.OK)
	valid(t, "a key of MaxKey bytes", tower(string(make([]byte, api.MaxKey))), api.OK)
	valid(t, "a value of no address", api.Tower{Key: []byte("k")}, api.OK)
	valid(t, "a tower with kids", tower(lowest, kid("v1986511", 5), kid("c1", 3), kid("a2", 1)), api.OK)
	valid(t, "a kid at the top", tower("a2", kid("b", 1)), api.OK)
	valid(t, "a kid of the greatest height", tower("x6405031", kid(higher, 1)), api.OK)
	n := &noise{}
	for range 500 {
		valid(t, "a valid tower", n.goodTower(), api.OK)
	}
}

func TestValidOfNoTower(t *testing.T) {
	valid(t, "the head with a key", api.Tower{Head: true, Key: []byte("x")}, api.ErrTower)
	valid(t, "the head with the key 0", api.Tower{Head: true, Key: []byte{0}}, api.ErrTower)
	valid(t, "the head with a value", api.Tower{Head: true, Value: api.Addr{Sum: api.Sum{31: 1}}}, api.ErrTower)
	valid(t, "the head with a value's Nth", api.Tower{Head: true, Value: api.Addr{Nth: 1}}, api.ErrTower)
	valid(t, "a key one byte too long", tower(string(make([]byte, api.MaxKey+1))), api.ErrTower)
	valid(t, "a key far too long", tower(string(make([]byte, 100000))), api.ErrTower)
}

// TestValidTellsTheFirst: what is wrong with the tower itself goes ahead of its kids.
func TestValidTellsTheFirst(t *testing.T) {
	bad := []api.Kid{{Level: 24}}
	valid(t, "a head with a key and a wrong kid", api.Tower{Head: true, Key: []byte("x"), Kids: bad}, api.ErrTower)
	valid(t, "a head with a value and a wrong kid", api.Tower{Head: true, Value: api.Addr{Nth: 1}, Kids: bad}, api.ErrTower)
	valid(t, "too long a key and a wrong kid", tower(string(make([]byte, 1025)), bad...), api.ErrTower)
	valid(t, "a head with a wrong kid", head(bad...), api.ErrKids)
	valid(t, "too long a key and 25 kids", tower(string(make([]byte, 1025)), make([]api.Kid, 25)...), api.ErrTower)
}

func TestValidOfManyKids(t *testing.T) {
	full := fullHead()
	full.Kids = append(full.Kids, kid("a", 1))
	valid(t, "25 kids", full, api.ErrKids)
	valid(t, "25 kids that are nothing", head(make([]api.Kid, 25)...), api.ErrKids)
	valid(t, "a thousand kids", head(slices.Repeat([]api.Kid{kid("a2", 1)}, 1000)...), api.ErrKids)
}

func leveled(key string, level int) api.Kid {
	k := kid(key, 1)
	k.Level = level
	return k
}

func TestValidOfLevels(t *testing.T) {
	for _, level := range []int{-1, -2, 24, 25, 256, 257, math.MinInt, math.MaxInt} {
		valid(t, "a level that is none", head(leveled("b0", level)), api.ErrKids)
	}
	for level, key := range byLevel {
		for other := range 24 {
			want := api.ErrKids
			if other == level {
				want = api.OK
			}
			valid(t, "a level and the key's height", head(leveled(key, other)), want)
		}
	}
	valid(t, "the key's bits and not its height", head(leveled(higher, 24)), api.ErrKids)
	valid(t, "a kid above the top", tower("a2", kid("b0", 1)), api.ErrKids)
	valid(t, "a kid just above the top", tower("c1", kid("d23", 1)), api.ErrKids)
	valid(t, "equal levels", head(kid("b0", 1), kid("a", 1)), api.ErrKids)
	valid(t, "equal levels at the top", head(kid(higher, 1), kid("x6405031", 1)), api.ErrKids)
	valid(t, "rising levels with falling keys", head(kid("b", 1), kid("a", 1)), api.ErrKids)
}

func TestValidOfKeys(t *testing.T) {
	n := &noise{}
	key := string(n.text(api.MaxKey))
	valid(t, "a kid's key of MaxKey bytes", head(kid(key, 1)), api.OK)
	valid(t, "a kid's key one byte too long", head(kid(key+"x", 1)), api.ErrKids)
	valid(t, "an empty key of the head's kid", head(kid("", 1)), api.OK)
	valid(t, "an empty key of the empty key's kid", tower("", kid("", 1)), api.ErrKids)
	valid(t, "the empty key's kid", tower("", kid("b", 1)), api.OK)
	valid(t, "the tower's own key", tower("a2", kid("a2", 1)), api.ErrKids)
	valid(t, "a kid ahead of its tower", tower("b", kid("a2", 1)), api.ErrKids)
	valid(t, "a kid that its tower begins with", tower("bb", kid("b", 1)), api.ErrKids)
	valid(t, "a second kid ahead of its tower", tower("x6405031", kid(higher, 1), kid("w348648", 1)), api.ErrKids)
	valid(t, "equal keys", head(kid("b0", 1), leveled("b0", 0)), api.ErrKids)
	valid(t, "keys that rise as levels fall", head(kid("c", 1), kid("g", 1)), api.ErrKids)
	valid(t, "keys that fall with levels", head(kid("c", 1), kid("a", 1)), api.OK)
	valid(t, "a last key that rises", head(kid("c", 1), kid("a", 1), kid("b", 1)), api.ErrKids)
	for b := 128; b < 256; b++ {
		if key := string([]byte{byte(b)}); heightOf([]byte(key)) == 1 {
			valid(t, "a key without sign", tower("\x7f", kid(key, 1)), api.OK)
		}
	}
}

// TestValidOfOrders: of keys that rise with their levels each may stand behind each higher one alone.
func TestValidOfOrders(t *testing.T) {
	for high, a := range byLevel {
		for low, b := range byLevel {
			want := api.ErrKids
			if low < high {
				want = api.OK
			}
			valid(t, "two kids of the head", head(kid(a, 1), kid(b, 1)), want)
		}
	}
}

func TestValidOfCounts(t *testing.T) {
	for _, c := range []struct {
		what   string
		counts []uint64
		head   api.Errno
		other  api.Errno
	}{
		{"a count of 0", []uint64{0}, api.ErrKids, api.ErrKids},
		{"a count of 1", []uint64{1}, api.OK, api.OK},
		{"a count of 2^62 - 1", []uint64{last - 1}, api.OK, api.OK},
		{"a count of 2^62", []uint64{last}, api.OK, api.ErrKids},
		{"a count above 2^62", []uint64{last + 1}, api.ErrKids, api.ErrKids},
		{"a count of 2^63", []uint64{1 << 63}, api.ErrKids, api.ErrKids},
		{"a count of 2^64 - 1", []uint64{math.MaxUint64}, api.ErrKids, api.ErrKids},
		{"a second count of 0", []uint64{5, 0}, api.ErrKids, api.ErrKids},
		{"a sum of 2^62 - 1", []uint64{last - 2, 1}, api.OK, api.OK},
		{"a sum of 2^62", []uint64{last - 1, 1}, api.OK, api.ErrKids},
		{"a sum above 2^62", []uint64{last, 1}, api.ErrKids, api.ErrKids},
		{"a sum of two halves", []uint64{last / 2, last / 2}, api.OK, api.ErrKids},
		{"a sum of three", []uint64{last / 2, last/2 - 1, 1}, api.OK, api.ErrKids},
		{"a sum above it by the third", []uint64{last / 2, last/2 - 1, 2}, api.ErrKids, api.ErrKids},
		{"a sum of 2^64", []uint64{last, last, last, last}, api.ErrKids, api.ErrKids},
		{"a sum of 2^64 and little", []uint64{last, last, last, last, 5}, api.ErrKids, api.ErrKids},
		{"a sum that comes back", []uint64{5, math.MaxUint64 - 2}, api.ErrKids, api.ErrKids},
	} {
		var kids []api.Kid
		for i, n := range c.counts {
			kids = append(kids, kid(byLevel[20-i], n))
		}
		valid(t, c.what+" at the head", head(kids...), c.head)
		valid(t, c.what+" at another", tower(lowest, kids...), c.other)
	}
}

// TestValidLooksAtNoMore: what hangs at the kids is not looked at, nor a value.
func TestValidLooksAtNoMore(t *testing.T) {
	n := &noise{}
	for range 50 {
		k := kid("c1", 3)
		k.Addr, k.Label = n.addr(), n.sum()
		valid(t, "any address and label", head(k), api.OK)
		valid(t, "any value", api.Tower{Key: []byte(lowest), Value: n.addr(), Kids: []api.Kid{k}}, api.OK)
	}
}

// worse changes one part of a tower, mostly for the worse.
func (n *noise) worse(t api.Tower) api.Tower {
	t.Kids = slices.Clone(t.Kids)
	if len(t.Kids) == 0 || n.below(6) == 0 {
		switch n.below(4) {
		case 0:
			t.Head = !t.Head
		case 1:
			t.Key = n.text(n.below(3))
		case 2:
			t.Key = n.text(1023 + n.below(4))
		case 3:
			t.Value = api.Addr{Nth: uint8(n.below(2))}
		}
		return t
	}
	i, j := n.below(len(t.Kids)), n.below(len(t.Kids))
	switch n.below(6) {
	case 0:
		t.Kids[i].Level = n.level()
	case 1:
		t.Kids[i].Key = []byte(byLevel[n.below(24)])
	case 2:
		t.Kids[i].Count = n.number()
	case 3:
		t.Kids[i], t.Kids[j] = t.Kids[j], t.Kids[i]
	case 4:
		t.Kids = slices.Insert(t.Kids, i, t.Kids[j])
	case 5:
		t.Kids[i] = kid(string(n.text(n.below(3))), 1)
	}
	return t
}

func TestValidOfMany(t *testing.T) {
	n := &noise{}
	seen := map[api.Errno]int{}
	for range 20000 {
		tower := n.goodTower()
		for range 1 + n.below(2) {
			tower = n.worse(tower)
		}
		got, want := node.Valid(tower), validOf(tower)
		if got != want {
			t.Fatalf("7.4: Valid(%.500v) = %d, want %d", tower, got, want)
		}
		seen[want]++
	}
	for range 1000 {
		tower := n.anyTower()
		answers(t, "7.4: Valid of a tower that makes no sense", node.Valid(tower), validOf(tower))
	}
	if seen[api.OK] < 1000 || seen[api.ErrTower] < 1000 || seen[api.ErrKids] < 1000 {
		t.Errorf("so often each answer was seen: %v", seen)
	}
}
