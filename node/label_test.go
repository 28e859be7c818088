package node_test

import (
	"fmt"
	"math"
	"slices"
	"testing"

	"witness/api"
	"witness/node"
)

// holdLabels holds all labels and the count of a tower against the plain reckoning.
func holdLabels(t *testing.T, what string, tower api.Tower) {
	t.Helper()
	isSum(t, "7.3: "+what+": Own", node.Own(tower), ownOf(tower))
	isSum(t, "7.3: "+what+": Label", node.Label(tower), belowOf(tower, all))
	levels := []int{math.MinInt, math.MinInt + 1, math.MaxInt - 1, math.MaxInt}
	for level := -4; level < 30; level++ {
		levels = append(levels, level)
	}
	for _, level := range levels {
		want := belowOf(tower, func(l int) bool { return l < level })
		isSum(t, fmt.Sprintf("7.3: %s: Below(%d)", what, level), node.Below(tower, level), want)
	}
	if got, want := node.Count(tower), countOf(tower); got != want {
		t.Errorf("7.3: %s: Count = %d, want %d", what, got, want)
	}
}

func TestLabelsOfTowers(t *testing.T) {
	holdLabels(t, "the head without kids", head())
	holdLabels(t, "the head with all kids", fullHead())
	holdLabels(t, "a tower without kids", tower("k"))
	holdLabels(t, "a tower without a key", api.Tower{})
	holdLabels(t, "a tower with kids", tower(lowest, kid("v1986511", 5), kid("c1", 3), kid("a2", 1)))
	n := &noise{}
	for range 200 {
		holdLabels(t, "a valid tower", n.goodTower())
	}
}

// TestLabelsOfAnyTowers: the order of the list counts, whatever the levels are.
func TestLabelsOfAnyTowers(t *testing.T) {
	n := &noise{}
	for range 200 {
		holdLabels(t, "a tower that makes no sense", n.anyTower())
	}
	rising := tower("k", kid("a2", 1), kid("b0", 2), kid("c1", 3))
	holdLabels(t, "kids the wrong way round", rising)
	holdLabels(t, "kids at one level", tower("k", kid("b0", 1), kid("a", 2), kid("b0", 1)))
	holdLabels(t, "a key that is too long", api.Tower{Key: make([]byte, 5000), Kids: rising.Kids})
	many := head()
	for range 1000 {
		many.Kids = append(many.Kids, api.Kid{Level: n.level(), Count: n.next()})
	}
	holdLabels(t, "a thousand kids", many)
}

func TestOwnOfHeads(t *testing.T) {
	want := sumOf([]byte{0x12})
	isSum(t, "7.3: Own of the head", node.Own(head()), want)
	isSum(t, "7.3: Own of a head with a key and a value", node.Own(api.Tower{Head: true, Key: []byte("x"), Value: api.Addr{Sum: fill('V')}}), want)
	isSum(t, "7.3: Own of a head with kids", node.Own(fullHead()), want)
}

func TestOwnOfOthers(t *testing.T) {
	want := sumOf(leafText([]byte("k"), fill('V')))
	isSum(t, "7.3: Own", node.Own(tower("k")), want)
	isSum(t, "7.3: Own of a tower with kids", node.Own(tower("k", kid("z", 1))), want)
	other := tower("k")
	other.Value.Nth = 77
	isSum(t, "7.3: Own with another Nth of the value", node.Own(other), want)
	isSum(t, "7.3: Own of a nil key", node.Own(api.Tower{}), node.Own(api.Tower{Key: []byte{}}))
}

func TestBelowAtEveryLevel(t *testing.T) {
	full := fullHead()
	label := ownOf(full)
	for level := range 24 {
		isSum(t, fmt.Sprintf("7.3: Below(%d)", level), node.Below(full, level), label)
		label = sumOf(pairText(full.Kids[23-level], label))
	}
	isSum(t, "7.3: Below(MaxHeight)", node.Below(full, api.MaxHeight), label)
	isSum(t, "7.3: Label", node.Label(full), label)
	isSum(t, "7.3: Below(-1)", node.Below(full, -1), node.Own(full))
}

// TestLabelsTellPartsApart: each part of a kid but its address is in the label.
func TestLabelsTellPartsApart(t *testing.T) {
	k := kid("c1", 3)
	label := node.Label(head(k))
	for what, other := range map[string]api.Kid{
		"level": {Level: 3, Key: k.Key, Count: 3, Label: k.Label},
		"key":   {Level: 2, Key: []byte("c2"), Count: 3, Label: k.Label},
		"count": {Level: 2, Key: k.Key, Count: 4, Label: k.Label},
		"label": {Level: 2, Key: k.Key, Count: 3, Label: fill('M')},
	} {
		if node.Label(head(other)) == label {
			t.Errorf("7.3: another %s of a kid has the same label", what)
		}
	}
	k.Addr = api.Addr{}
	isSum(t, "7.3: Label with another address", node.Label(head(k)), label)
}

func TestCounts(t *testing.T) {
	counts := func(l ...uint64) []api.Kid {
		var kids []api.Kid
		for _, n := range l {
			kids = append(kids, api.Kid{Count: n})
		}
		return kids
	}
	for _, c := range []struct {
		tower api.Tower
		want  uint64
	}{
		{head(), 0},
		{tower("k"), 1},
		{tower("k", counts(3, 4)...), 8},
		{head(counts(3, 4)...), 7},
		{head(counts(0)...), 0},
		{tower("k", counts(math.MaxUint64)...), 0},
		{head(counts(math.MaxUint64)...), math.MaxUint64},
		{head(counts(math.MaxUint64, 1)...), 0},
		{head(counts(1<<63, 1<<63, 5)...), 5},
		{tower("k", slices.Repeat(counts(1<<62), 25)...), 1<<62 + 1},
	} {
		if got := node.Count(c.tower); got != c.want {
			t.Errorf("7.3: Count of %v = %d, want %d", c.tower, got, c.want)
		}
	}
}
