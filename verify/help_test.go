package verify_test

import (
	"bytes"
	"crypto/sha256"
	"encoding/binary"
	"encoding/hex"
	"fmt"
	"maps"
	"math/bits"
	"slices"
	"strings"
	"testing"

	"witness/api"
	"witness/blobs"
	"witness/disk"
	"witness/segment"
	"witness/skip"
	"witness/sweep"
)

// byLevel are keys that rise with their levels: byLevel[i] has the top i.
var byLevel = []string{
	"a2", "b0", "c1", "d23", "e4", "f194", "g290", "h114", "i164", "j1161", "k1706", "l5570", "m5643", "n23068", "o14992", "p14050",
	"q86245", "r59638", "s899545", "t487979", "u3415476", "v1986511", "w348648", "x6405031",
}

// higher is a key with one bit 0 more ahead of its digest's first 1 than a height can tell.
const higher = "y3025635"

// lowest is a key ahead of all these with the top 21.
const lowest = "A1303534"

func cat(parts ...[]byte) []byte { return bytes.Join(parts, nil) }

func word(n int) []byte { return binary.BigEndian.AppendUint32(nil, uint32(n)) }

func long(n uint64) []byte { return binary.BigEndian.AppendUint64(nil, n) }

func number(n uint64) []byte { return binary.AppendUvarint(nil, n) }

func front(s api.Sum) string { return hex.EncodeToString(s[:4]) }

// What follows up to planOf is the document's words a second time, so that the program is not held against itself.

func sumOf(parts ...[]byte) api.Sum { return sha256.Sum256(cat(parts...)) }

func heightOf(key string) int {
	s := sumOf([]byte{0x17}, []byte(key))
	return min(1+bits.LeadingZeros64(binary.BigEndian.Uint64(s[:])), 24)
}

func labelOf(t api.Tower) api.Sum {
	label := sumOf([]byte{0x12})
	if !t.Head {
		label = sumOf([]byte{0x11}, word(len(t.Key)), t.Key, t.Value.Sum[:])
	}
	for _, k := range slices.Backward(t.Kids) {
		label = sumOf([]byte{0x13, byte(k.Level)}, long(k.Count), word(len(k.Key)), k.Key, label[:], k.Label[:])
	}
	return label
}

func countOf(t api.Tower) uint64 {
	n := uint64(1)
	if t.Head {
		n = 0
	}
	for _, k := range t.Kids {
		n += k.Count
	}
	return n
}

// treeOf is the tree of a head; its address is nobody's.
func treeOf(head api.Tower) api.Tree {
	label := labelOf(head)
	return api.Tree{Count: countOf(head), Label: sumOf([]byte{0x14}, long(countOf(head)), label[:])}
}

// kidOf is a tower as another one's kid.
func kidOf(t api.Tower) api.Kid {
	return api.Kid{Level: heightOf(string(t.Key)) - 1, Key: t.Key, Count: countOf(t), Label: labelOf(t)}
}

func valueAddr(value string) api.Addr { return api.Addr{Sum: sumOf([]byte{1}, []byte(value))} }

// plan is a whole map with its towers.
type plan struct {
	m       map[string]string
	keys    []string
	heights []int
	towers  map[string]api.Tower
	head    api.Tower
	root    api.Sum
}

func planOf(m map[string]string) *plan {
	p := &plan{m: m, keys: slices.Sorted(maps.Keys(m)), towers: map[string]api.Tower{}}
	for _, key := range p.keys {
		p.heights = append(p.heights, heightOf(key))
	}
	p.head = p.lay(-1)
	p.root = treeOf(p.head).Label
	return p
}

// neighbour is the first key behind the i-th one whose height is above the level; -1: none.
func (p *plan) neighbour(i, level int) int {
	for j := i + 1; j < len(p.keys); j++ {
		if p.heights[j] > level {
			return j
		}
	}
	return -1
}

// lay is the i-th key's tower (of -1: the head), behind all that hangs at it.
func (p *plan) lay(i int) api.Tower {
	t, levels := api.Tower{Head: true}, 24
	if i >= 0 {
		t, levels = api.Tower{Key: []byte(p.keys[i]), Value: valueAddr(p.m[p.keys[i]])}, p.heights[i]
	}
	for level := range levels {
		if j := p.neighbour(i, level); j >= 0 && p.heights[j] == level+1 {
			t.Kids = slices.Insert(t.Kids, 0, kidOf(p.lay(j)))
		}
	}
	if i >= 0 {
		p.towers[p.keys[i]] = t
	}
	return t
}

func listOf(m map[string]string) []api.Entry {
	var l []api.Entry
	for _, key := range slices.Sorted(maps.Keys(m)) {
		l = append(l, api.Entry{Key: []byte(key), Value: []byte(m[key])})
	}
	return l
}

// mapOf is of keys and values that take turns.
func mapOf(l ...string) map[string]string {
	m := map[string]string{}
	for i := 0; i < len(l); i += 2 {
		m[l[i]] = l[i+1]
	}
	return m
}

// keysOf are some keys of that height, in their order.
func keysOf(height, n int, front string) []string {
	var l []string
	for i := 0; len(l) < n; i++ {
		if key := fmt.Sprintf("%s%06d", front, i); heightOf(key) == height {
			l = append(l, key)
		}
	}
	return l
}

func answers(t *testing.T, what string, got, want api.Errno) {
	t.Helper()
	if got != want {
		t.Errorf("%s: %d, want %d", what, got, want)
	}
}

// store is blobs over a disk.
type store struct {
	t *testing.T
	b *blobs.Blobs
}

// wide has room for all that a test puts, in segments of 128 KiB: the greatest value among it.
func wide(t *testing.T) store {
	t.Helper()
	d, e := disk.New(4090, 4096)
	answers(t, "3.1: New", e, api.OK)
	l, e := segment.Open(d, 32, 0, make([]api.Mark, segment.Count(4090, 32)))
	answers(t, "5.2: Open", e, api.OK)
	b, e := blobs.Open(l)
	answers(t, "6.2: Open", e, api.OK)
	return store{t, b}
}

// planted is the tree of a map, applied in batches.
func (s store) planted(m map[string]string) api.Tree {
	s.t.Helper()
	x, e := skip.Empty(s.b)
	answers(s.t, "8.1: Empty", e, api.OK)
	var l []api.Edit
	for _, e := range listOf(m) {
		l = append(l, api.Edit{Key: e.Key, Value: e.Value})
	}
	for batch := range slices.Chunk(l, api.MaxBatch) {
		x, e = sweep.Apply(s.b, x, batch)
		answers(s.t, "9.1: Apply", e, api.OK)
	}
	return x
}

// noise gives numbers that look like chance and are the same in every run.
type noise struct{ x uint64 }

func (n *noise) next() uint64 {
	n.x = n.x*6364136223846793005 + 1442695040888963407
	return bits.ReverseBytes64(n.x ^ n.x>>29)
}

func (n *noise) below(m int) int { return int(n.next() % uint64(m)) }

// key is one out of few, of which some are alike in front.
func (n *noise) key() string {
	key := make([]byte, n.below(4))
	for i := range key {
		key[i] = "\x00\x01a\xff"[n.below(4)]
	}
	return string(key)
}

// bounds are texts at and around keys, in their order.
func bounds(m map[string]string) []string {
	l := []string{"", "\x00", "\xff\xff\xff\xff\xff"}
	for key := range m {
		l = append(l, key, key+"\x00")
		if key != "" {
			l = append(l, key[:len(key)-1])
		}
	}
	slices.Sort(l)
	return slices.Compact(l)
}

// spansOf are all that have such bounds.
func spansOf(l []string) []api.Span {
	var spans []api.Span
	for i, lo := range l {
		spans = append(spans, from(lo))
		for _, hi := range l[i+1:] {
			spans = append(spans, span(lo, hi))
		}
	}
	return spans
}

// some are at most n of a list, by chance.
func some[T any](n *noise, l []T, most int) []T {
	if len(l) <= most {
		return l
	}
	return shuffled(n, l)[:most]
}

func shuffled[T any](n *noise, l []T) []T {
	l = slices.Clone(l)
	for i := range l {
		j := n.below(i + 1)
		l[i], l[j] = l[j], l[i]
	}
	return l
}

// chain is a map in which each key hangs at the one ahead of it.
func chain(size int) map[string]string {
	m := map[string]string{}
	for i, key := range keysOf(1, size, "k") {
		m[key] = fmt.Sprint("v", i%7)
	}
	return m
}

// fan is a map in which each level's key hangs at the head, side by side with the others; or at the key lowest, as far as that is high.
func fan(below bool) map[string]string {
	m := map[string]string{higher: "highest"}
	for level, key := range byLevel[:23] {
		m[key] = fmt.Sprint("v", level)
	}
	if below {
		m[lowest] = "lowest"
	}
	return m
}

// garden is a map in which keys of many heights stand side by side.
func garden() map[string]string {
	m := map[string]string{"": "empty"}
	for height := 1; height <= 5; height++ {
		for i, key := range append(keysOf(height, 3, fmt.Sprint(6-height)), keysOf(height, 2, fmt.Sprint(6+height))...) {
			m[key] = fmt.Sprint("v", i, height)
		}
	}
	return m
}

// chance is a map of some keys, out of few.
func (n *noise) chance(size int) map[string]string {
	m := map[string]string{}
	for range size {
		m[n.key()] = strings.Repeat("v", n.below(200))
	}
	return m
}

// longKeys is a map of some keys with MaxKey bytes.
func longKeys() map[string]string {
	m := map[string]string{}
	for i := range 6 {
		m[strings.Repeat(string(rune('b'+i)), api.MaxKey)] = fmt.Sprint("long", i)
	}
	return m
}
