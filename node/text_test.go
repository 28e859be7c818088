package node_test

import (
	"bytes"
	"fmt"
	"math"
	"testing"

	"witness/api"
	"witness/node"
)

func TestHeightExamples(t *testing.T) {
	keys := []string{"", "a", "b", "c", "d", "e", "f", "g", "i"}
	for i, want := range []int{1, 2, 1, 4, 1, 3, 1, 3, 6} {
		if got := node.Height([]byte(keys[i])); got != want {
			t.Errorf("7.1: Height(%q) = %d, want %d", keys[i], got, want)
		}
	}
	if got := node.Height(nil); got != 1 {
		t.Errorf("7.1: Height of a nil key = %d, want 1", got)
	}
}

func hasHeight(t *testing.T, key []byte) {
	t.Helper()
	if got, want := node.Height(key), heightOf(key); got != want {
		t.Errorf("7.1: Height of %d bytes, %.20q = %d, want %d", len(key), key, got, want)
	}
}

func TestHeightOfAnyKey(t *testing.T) {
	n := &noise{}
	for range 3000 {
		hasHeight(t, n.text(n.below(12)))
	}
	for length := range 200 {
		hasHeight(t, n.text(length))
	}
	for _, length := range []int{1023, 1024, 1025, 1026, 4096, 65537, 1000000} {
		hasHeight(t, n.text(length))
		hasHeight(t, make([]byte, length))
	}
	for b := range 256 {
		hasHeight(t, []byte{byte(b)})
	}
}

func TestHeightOfHighKeys(t *testing.T) {
	for level, key := range byLevel {
		if got := node.Height([]byte(key)); got != level+1 {
			t.Errorf("7.1: Height(%q) = %d, want %d", key, got, level+1)
		}
	}
	if zeros := zerosOf([]byte(higher)); zeros < 24 {
		t.Fatalf("%q has %d bits 0 in front, which is no more than a height can tell", higher, zeros)
	}
	if got := node.Height([]byte(higher)); got != api.MaxHeight {
		t.Errorf("7.1: Height(%q) = %d, want %d: no height is above that", higher, got, api.MaxHeight)
	}
}

// someKeys are of all sorts of lengths, longer than keys can be, too.
func someKeys(n *noise) [][]byte {
	keys := [][]byte{nil, {}, {0}, []byte("ab")}
	for _, length := range []int{1, 127, 128, 255, 256, 257, 1023, 1024, 1025, 65535, 65536, 70000} {
		keys = append(keys, n.text(length))
	}
	return keys
}

func TestTextExamples(t *testing.T) {
	value := sumOf([]byte{1})
	leaf := node.LeafText([]byte("ab"), value)
	isText(t, "7.2: LeafText", leaf, cat([]byte("\x11\x00\x00\x00\x02ab"), value[:]))
	isText(t, "7.2: LeafText's digest", leaf[7:11], []byte{0x4b, 0xf5, 0x12, 0x2f})
	isText(t, "7.2: HeadText", node.HeadText(), []byte{0x12})
	pair := node.PairText(api.Kid{Level: 2, Key: []byte("ab"), Count: 7}, api.Sum{})
	isText(t, "7.2: PairText", pair, cat([]byte("\x13\x02\x00\x00\x00\x00\x00\x00\x00\x07\x00\x00\x00\x02ab"), make([]byte, 64)))
	isText(t, "7.2: RootText", node.RootText(0x0102030405060708, fill('h')), cat([]byte("\x14\x01\x02\x03\x04\x05\x06\x07\x08"), bytes.Repeat([]byte("h"), 32)))
}

func TestLeafText(t *testing.T) {
	n := &noise{}
	for _, key := range someKeys(n) {
		value := n.sum()
		isText(t, fmt.Sprintf("7.2: LeafText of a key of %d bytes", len(key)), node.LeafText(key, value), leafText(key, value))
	}
	isText(t, "7.2: LeafText of a nil key", node.LeafText(nil, fill('v')), cat([]byte{0x11, 0, 0, 0, 0}, bytes.Repeat([]byte("v"), 32)))
}

func TestPairText(t *testing.T) {
	n := &noise{}
	levels := []int{0, 1, 22, 23, 24, 127, 128, 255, 256, 257, 1 << 32, -1, -2, -255, -256, math.MaxInt, math.MinInt}
	counts := []uint64{0, 1, 255, 256, 1<<32 - 1, 1 << 32, last, last + 1, math.MaxUint64, 0x0102030405060708}
	for _, key := range someKeys(n) {
		for _, level := range levels {
			k := api.Kid{Level: level, Key: key, Count: counts[n.below(len(counts))], Addr: n.addr(), Label: n.sum()}
			below := n.sum()
			isText(t, fmt.Sprintf("7.2: PairText at the level %d with a key of %d bytes", level, len(key)), node.PairText(k, below), pairText(k, below))
		}
	}
	for _, count := range counts {
		k := api.Kid{Level: 5, Key: []byte("k"), Count: count, Label: fill('L')}
		isText(t, fmt.Sprintf("7.2: PairText with the count %d", count), node.PairText(k, fill('b')), pairText(k, fill('b')))
	}
}

func TestPairTextLeavesAddressesOut(t *testing.T) {
	k := kid("c1", 3)
	other := k
	other.Addr = api.Addr{Sum: fill('X'), Nth: 200}
	isText(t, "7.2: PairText with another address", node.PairText(other, fill('b')), node.PairText(k, fill('b')))
}

func TestRootText(t *testing.T) {
	n := &noise{}
	for _, count := range []uint64{0, 1, 258, last, last + 1, math.MaxUint64} {
		label := n.sum()
		isText(t, fmt.Sprintf("7.2: RootText with the count %d", count), node.RootText(count, label), cat([]byte{0x14}, long(count), label[:]))
	}
}

// TestTextsBeginUnlike: no text of one sort is one of another.
func TestTextsBeginUnlike(t *testing.T) {
	texts := [][]byte{node.LeafText(nil, api.Sum{}), node.HeadText(), node.PairText(api.Kid{}, api.Sum{}), node.RootText(0, api.Sum{})}
	for i, want := range []byte{api.TagLeaf, api.TagHead, api.TagPair, api.TagRoot} {
		if len(texts[i]) == 0 || texts[i][0] != want {
			t.Errorf("7.2: text %d begins with %.1x, want %x", i, texts[i], want)
		}
	}
}
