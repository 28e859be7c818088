package annals_test

import (
	"bytes"
	"slices"
	"testing"

	"witness/annals"
	"witness/api"
)

// versions are such as can be, and such as cannot.
var versions = []uint64{0, 1, 127, 128, 255, 256, 258, 65535, 1<<32 - 1, 1 << 32, 0x0102030405060708, last - 1, last, last + 1, last + 2, 1 << 63, 1<<64 - 1}

func someSums(n *noise) []api.Sum {
	full, one, end := api.Sum{}, api.Sum{}, api.Sum{}
	for i := range full {
		full[i] = 0xff
	}
	one[0], end[31] = 1, 1
	return append(n.sums(5), api.Sum{}, full, one, end)
}

func TestLeafText(t *testing.T) {
	n := &noise{x: 1}
	for _, v := range versions {
		for _, label := range someSums(n) {
			l := api.Leaf{Version: v, Label: label}
			if text := annals.LeafText(l); !bytes.Equal(text, leafText(l)) || len(text) != 41 {
				t.Errorf("13.1: LeafText of version %d: %x, want %x", v, text, leafText(l))
			}
		}
	}
}

func TestForkText(t *testing.T) {
	n := &noise{x: 2}
	for _, left := range someSums(n) {
		for _, right := range someSums(n) {
			if text := annals.ForkText(left, right); !bytes.Equal(text, forkText(left, right)) || len(text) != 65 {
				t.Errorf("13.1: ForkText: %x, want %x", text, forkText(left, right))
			}
		}
	}
}

// isOver holds Over against the definition.
func isOver(t *testing.T, what string, l []api.Leaf) {
	t.Helper()
	if h, want := annals.Over(l), headOf(l); h != want {
		t.Errorf("13.1: %s: Over of %d leaves: %d, %s, want %d, %s", what, len(l), h.Size, front(h.Label), want.Size, front(want.Label))
	}
}

func TestOver(t *testing.T) {
	isOver(t, "no list", nil)
	isOver(t, "an empty list", []api.Leaf{})
	n := &noise{x: 3}
	for _, size := range edges(4096) {
		isOver(t, "the first ones", leavesOf(size))
		wild := make([]api.Leaf, size)
		for i := range wild {
			wild[i] = api.Leaf{Version: versions[n.below(uint64(len(versions)))], Label: n.sum()}
		}
		isOver(t, "whatever versions", wild)
		isOver(t, "all alike", slices.Repeat([]api.Leaf{leafOf(5)}, size))
	}
}

// TestOverTellsAll: each leaf, and their order, counts.
func TestOverTellsAll(t *testing.T) {
	l := leavesOf(21)
	h := annals.Over(l)
	for i := range l {
		other := slices.Clone(l)
		other[i].Label[31] ^= 1
		if annals.Over(other) == h {
			t.Errorf("13.1: another label of leaf %d is not told", i)
		}
		other = slices.Clone(l)
		other[i].Version ^= 1 << 63
		if annals.Over(other) == h {
			t.Errorf("13.1: another version of leaf %d is not told", i)
		}
		if i > 0 {
			other = slices.Clone(l)
			other[i], other[i-1] = other[i-1], other[i]
			if annals.Over(other) == h {
				t.Errorf("13.1: another order of the leaves %d and %d is not told", i-1, i)
			}
		}
		if annals.Over(l[:i]).Label == h.Label || annals.Over(l[:i]).Size != uint64(i) {
			t.Errorf("13.1: the first %d leaves have the head of all", i)
		}
	}
}
