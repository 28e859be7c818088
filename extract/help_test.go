package extract_test

import (
	"bytes"
	"crypto/sha256"
	"encoding/binary"
	"encoding/hex"
	"fmt"
	"maps"
	"math/bits"
	"reflect"
	"slices"
	"testing"

	"witness/api"
	"witness/blobs"
	"witness/disk"
	"witness/segment"
)

// byLevel are keys that rise with their levels: byLevel[i] has the top i.
var byLevel = []string{
	"a2", "b0", "c1", "d23", "e4", "f194", "g290", "h114", "i164", "j1161", "k1706", "l5570", "m5643", "n23068", "o14992", "p14050",
	"q86245", "r59638", "s899545", "t487979", "u3415476", "v1986511", "w348648", "x6405031",
}

// higher is a key with one bit 0 more ahead of its digest's first 1 than a height can tell.
const higher = "y3025635"

// lowest is a key ahead of all these with the top 21.
const lowest = "A1303534"

func cat(parts ...[]byte) []byte { return bytes.Join(parts, nil) }

func word(n int) []byte { return binary.BigEndian.AppendUint32(nil, uint32(n)) }

func long(n uint64) []byte { return binary.BigEndian.AppendUint64(nil, n) }

func number(n uint64) []byte { return binary.AppendUvarint(nil, n) }

func front(s api.Sum) string { return hex.EncodeToString(s[:4]) }

// What follows up to listOf is the document's words a second time, so that the program is not held against itself.

func sumOf(parts ...[]byte) api.Sum { return sha256.Sum256(cat(parts...)) }

func heightOf(key string) int {
	s := sumOf([]byte{0x17}, []byte(key))
	return min(1+bits.LeadingZeros64(binary.BigEndian.Uint64(s[:])), 24)
}

func labelOf(t api.Tower) api.Sum {
	label := sumOf([]byte{0x12})
	if !t.Head {
		label = sumOf([]byte{0x11}, word(len(t.Key)), t.Key, t.Value.Sum[:])
	}
	for _, k := range slices.Backward(t.Kids) {
		label = sumOf([]byte{0x13, byte(k.Level)}, long(k.Count), word(len(k.Key)), k.Key, label[:], k.Label[:])
	}
	return label
}

func countOf(t api.Tower) uint64 {
	n := uint64(1)
	if t.Head {
		n = 0
	}
	for _, k := range t.Kids {
		n += k.Count
	}
	return n
}

// recordOf is a tower's bytes, whether it makes sense or not.
func recordOf(t api.Tower) []byte {
	b := []byte{1}
	if !t.Head {
		b = cat([]byte{0}, number(uint64(len(t.Key))), t.Key, t.Value.Sum[:], []byte{t.Value.Nth})
	}
	b = append(b, number(uint64(len(t.Kids)))...)
	for _, k := range t.Kids {
		b = cat(b, []byte{byte(k.Level)}, number(uint64(len(k.Key))), k.Key, number(k.Count), k.Addr.Sum[:], []byte{k.Addr.Nth}, k.Label[:])
	}
	return b
}

func valueAddr(value string) api.Addr { return api.Addr{Sum: sumOf([]byte{1}, []byte(value))} }

func towerAddr(t api.Tower) api.Addr { return api.Addr{Sum: sumOf([]byte{2}, recordOf(t))} }

// treeOf is the tree of a head.
func treeOf(head api.Tower) api.Tree {
	label := labelOf(head)
	return api.Tree{Addr: towerAddr(head), Count: countOf(head), Label: sumOf([]byte{0x14}, long(countOf(head)), label[:])}
}

// kidOf is a tower as another one's kid.
func kidOf(t api.Tower) api.Kid {
	return api.Kid{Level: heightOf(string(t.Key)) - 1, Key: t.Key, Count: countOf(t), Addr: towerAddr(t), Label: labelOf(t)}
}

// plan is a whole map as it is stored.
type plan struct {
	keys    []string
	values  []string
	heights []int
	towers  map[string]api.Tower
	head    api.Tower
	tree    api.Tree
	blobs   []api.Addr
}

func planOf(m map[string]string) *plan {
	p := &plan{keys: slices.Sorted(maps.Keys(m)), towers: map[string]api.Tower{}}
	for _, key := range p.keys {
		p.values, p.heights = append(p.values, m[key]), append(p.heights, heightOf(key))
	}
	p.head = p.lay(-1)
	p.tree = treeOf(p.head)
	return p
}

// neighbour is the first key behind the i-th one whose height is above the level; -1: none.
func (p *plan) neighbour(i, level int) int {
	for j := i + 1; j < len(p.keys); j++ {
		if p.heights[j] > level {
			return j
		}
	}
	return -1
}

// lay is the i-th key's tower (of -1: the head), behind all that hangs at it.
func (p *plan) lay(i int) api.Tower {
	t, levels := api.Tower{Head: true}, 24
	if i >= 0 {
		t, levels = api.Tower{Key: []byte(p.keys[i]), Value: valueAddr(p.values[i])}, p.heights[i]
	}
	for level := range levels {
		if j := p.neighbour(i, level); j >= 0 && p.heights[j] == level+1 {
			t.Kids = slices.Insert(t.Kids, 0, kidOf(p.lay(j)))
		}
	}
	if i >= 0 {
		p.blobs = append(p.blobs, t.Value)
		p.towers[p.keys[i]] = t
	}
	p.blobs = append(p.blobs, towerAddr(t))
	return t
}

func listOf(m map[string]string) []api.Entry {
	var l []api.Entry
	for _, key := range slices.Sorted(maps.Keys(m)) {
		l = append(l, api.Entry{Key: []byte(key), Value: []byte(m[key])})
	}
	return l
}

// mapOf is of keys and values that take turns.
func mapOf(l ...string) map[string]string {
	m := map[string]string{}
	for i := 0; i < len(l); i += 2 {
		m[l[i]] = l[i+1]
	}
	return m
}

// keysOf are some keys of that height, in their order.
func keysOf(height, n int, front string) []string {
	var l []string
	for i := 0; len(l) < n; i++ {
		if key := fmt.Sprintf("%s%06d", front, i); heightOf(key) == height {
			l = append(l, key)
		}
	}
	return l
}

func answers(t *testing.T, what string, got, want api.Errno) {
	t.Helper()
	if got != want {
		t.Errorf("%s: %d, want %d", what, got, want)
	}
}

// store is blobs over a disk.
type store struct {
	t *testing.T
	d *disk.Disk
	b *blobs.Blobs
}

// newStore is one over a fresh disk.
func newStore(t *testing.T, sectors, size, span int) store {
	t.Helper()
	d, e := disk.New(sectors, size)
	answers(t, "3.1: New", e, api.OK)
	return openStore(t, d, span, 0, make([]api.Mark, segment.Count(sectors, span)))
}

func openStore(t *testing.T, d *disk.Disk, span int, serial uint64, marks []api.Mark) store {
	t.Helper()
	l, e := segment.Open(d, span, serial, marks)
	answers(t, "5.2: Open", e, api.OK)
	b, e := blobs.Open(l)
	answers(t, "6.2: Open", e, api.OK)
	if b == nil {
		t.Fatal("6.2: no blobs")
	}
	return store{t, d, b}
}

// wide has room for all that a test puts, in segments of 128 KiB: the greatest value among it.
func wide(t *testing.T) store {
	t.Helper()
	return newStore(t, 4090, 4096, 32)
}

// view is all that blobs tell without their bodies.
type view struct {
	tail   api.Tail
	addrs  []api.Addr
	places []api.Place
	writes uint64
}

func (s store) view() view {
	v := view{tail: s.b.Log().Tail(), writes: s.d.Stats().Writes}
	for a, p := range s.b.Each() {
		v.addrs, v.places = append(v.addrs, a), append(v.places, p)
	}
	return v
}

// unchanged holds that a call writes nothing.
func (s store) unchanged(what string, call func()) {
	s.t.Helper()
	before := s.view()
	call()
	if now := s.view(); !reflect.DeepEqual(now, before) {
		s.t.Errorf("%s: it wrote: %d blobs by %d writes, and there were %d by %d", what, len(now.addrs), now.writes, len(before.addrs), before.writes)
	}
}

// off makes the power go.
func (s store) off() {
	s.t.Helper()
	s.d.Fuse(0)
	answers(s.t, "3.5: Flush", s.d.Flush(), api.ErrPower)
}

// on gives the power back, with all that was written.
func (s store) on() {
	s.d.Crash(api.Crash{Keep: slices.Repeat([]bool{true}, len(s.d.Pending())), Torn: -1})
}

// turn lets a bit of a blob's frame turn.
func (s store) turn(a api.Addr) {
	s.t.Helper()
	p, ok := s.b.Where(a)
	if !ok {
		s.t.Fatalf("6.5: no blob %s", front(a.Sum))
	}
	at := p.At + p.Len - 5 // the last byte of its body
	span := s.b.Log().Size() / s.d.Size()
	answers(s.t, "3.11: Rot", s.d.Rot(2+p.Seg*span+at/s.d.Size(), at%s.d.Size(), 1), api.OK)
}

// What follows makes trees by hand.

func (s store) put(kind byte, body []byte) api.Addr {
	s.t.Helper()
	a, e := s.b.Put(kind, body)
	answers(s.t, "6.3: Put", e, api.OK)
	return a
}

func (s store) value(text string) api.Addr {
	s.t.Helper()
	return s.put(api.KindValue, []byte(text))
}

// tower lays down a tower with its key for a value; kids from the highest level down.
func (s store) tower(key string, kids ...api.Kid) api.Kid {
	s.t.Helper()
	return s.laid(api.Tower{Key: []byte(key), Value: s.value(key), Kids: kids})
}

func (s store) laid(t api.Tower) api.Kid {
	s.t.Helper()
	k := kidOf(t)
	k.Addr = s.put(api.KindTower, recordOf(t))
	return k
}

// tree lays down a head.
func (s store) tree(kids ...api.Kid) api.Tree {
	s.t.Helper()
	head := api.Tower{Head: true, Kids: kids}
	x := treeOf(head)
	x.Addr = s.put(api.KindTower, recordOf(head))
	return x
}

// noise gives numbers that look like chance and are the same in every run.
type noise struct{ x uint64 }

func (n *noise) next() uint64 {
	n.x = n.x*6364136223846793005 + 1442695040888963407
	return bits.ReverseBytes64(n.x ^ n.x>>29)
}

func (n *noise) below(m int) int { return int(n.next() % uint64(m)) }

// key is one out of few, of which some are alike in front.
func (n *noise) key() string {
	key := make([]byte, n.below(4))
	for i := range key {
		key[i] = "\x00\x01a\xff"[n.below(4)]
	}
	return string(key)
}
