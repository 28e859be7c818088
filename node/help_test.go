package node_test

import (
	"bytes"
	"crypto/sha256"
	"encoding/binary"
	"encoding/hex"
	"math/big"
	"math/bits"
	"reflect"
	"slices"
	"testing"

	"witness/api"
	"witness/blobs"
	"witness/disk"
	"witness/node"
	"witness/segment"
)

const last = uint64(1) << 62 // the greatest count

// byLevel are keys that rise with their levels: byLevel[i] has the top i.
var byLevel = []string{
	"a2", "b0", "c1", "d23", "e4", "f194", "g290", "h114", "i164", "j1161", "k1706", "l5570", "m5643", "n23068", "o14992", "p14050",
	"q86245", "r59638", "s899545", "t487979", "u3415476", "v1986511", "w348648", "x6405031",
}

// higher is a key with one bit 0 more ahead of its digest's first 1 than a height can tell.
const higher = "y3025635"

// lowest is a key ahead of all these with the top 21.
const lowest = "A1303534"

func cat(parts ...[]byte) []byte { return bytes.Join(parts, nil) }

func word(n int) []byte { return binary.BigEndian.AppendUint32(nil, uint32(n)) }

func long(n uint64) []byte { return binary.BigEndian.AppendUint64(nil, n) }

func number(n uint64) []byte { return binary.AppendUvarint(nil, n) }

func fill(b byte) api.Sum { return api.Sum(bytes.Repeat([]byte{b}, 32)) }

func front(s api.Sum) string { return hex.EncodeToString(s[:4]) }

// What follows up to rootOf is the document's words a second time, so that the program is not held against itself.

func sumOf(parts ...[]byte) api.Sum { return sha256.Sum256(cat(parts...)) }

func zerosOf(key []byte) int {
	s := sumOf([]byte{0x17}, key)
	return bits.LeadingZeros64(binary.BigEndian.Uint64(s[:]))
}

func heightOf(key []byte) int { return min(1+zerosOf(key), 24) }

func leafText(key []byte, value api.Sum) []byte {
	return cat([]byte{0x11}, word(len(key)), key, value[:])
}

func pairText(k api.Kid, below api.Sum) []byte {
	return cat([]byte{0x13, byte(k.Level)}, long(k.Count), word(len(k.Key)), k.Key, below[:], k.Label[:])
}

func ownOf(t api.Tower) api.Sum {
	if t.Head {
		return sumOf([]byte{0x12})
	}
	return sumOf(leafText(t.Key, t.Value.Sum))
}

// belowOf goes through the list from its last kid to its first one.
func belowOf(t api.Tower, taken func(level int) bool) api.Sum {
	label := ownOf(t)
	for i := len(t.Kids) - 1; i >= 0; i-- {
		if taken(t.Kids[i].Level) {
			label = sumOf(pairText(t.Kids[i], label))
		}
	}
	return label
}

func all(int) bool { return true }

// truly is a count as a number without end.
func truly(t api.Tower, kids int) *big.Int {
	n := big.NewInt(1)
	if t.Head {
		n.SetInt64(0)
	}
	for _, k := range t.Kids[:kids] {
		n.Add(n, new(big.Int).SetUint64(k.Count))
	}
	return n
}

func countOf(t api.Tower) uint64 {
	n := truly(t, len(t.Kids))
	return n.Mod(n, new(big.Int).Lsh(big.NewInt(1), 64)).Uint64()
}

// validOf asks in the order of the chapter's words.
func validOf(t api.Tower) api.Errno {
	top := 23
	if t.Head {
		if len(t.Key) > 0 || t.Value != (api.Addr{}) {
			return api.ErrTower
		}
	} else {
		if len(t.Key) > 1024 {
			return api.ErrTower
		}
		top = heightOf(t.Key) - 1
	}
	if len(t.Kids) > 24 {
		return api.ErrKids
	}
	for i, k := range t.Kids {
		wrong := k.Level < 0 || k.Level > top || len(k.Key) > 1024 || heightOf(k.Key)-1 != k.Level
		wrong = wrong || !t.Head && bytes.Compare(k.Key, t.Key) <= 0
		if i > 0 {
			wrong = wrong || k.Level >= t.Kids[i-1].Level || bytes.Compare(k.Key, t.Kids[i-1].Key) >= 0
		}
		wrong = wrong || k.Count == 0 || k.Count > last || truly(t, i+1).Cmp(new(big.Int).SetUint64(last)) > 0
		if wrong {
			return api.ErrKids
		}
	}
	return api.OK
}

// recordOf is a tower's bytes, whether it makes sense or not.
func recordOf(t api.Tower) []byte {
	b := []byte{1}
	if !t.Head {
		b = cat([]byte{0}, number(uint64(len(t.Key))), t.Key, t.Value.Sum[:], []byte{t.Value.Nth})
	}
	b = append(b, number(uint64(len(t.Kids)))...)
	for _, k := range t.Kids {
		b = cat(b, []byte{byte(k.Level)}, number(uint64(len(k.Key))), k.Key, number(k.Count), k.Addr.Sum[:], []byte{k.Addr.Nth}, k.Label[:])
	}
	return b
}

// neighbour is the first entry behind the i-th one whose height is above the level; -1: none.
func neighbour(heights []int, i, level int) int {
	for j := i + 1; j < len(heights); j++ {
		if heights[j] > level {
			return j
		}
	}
	return -1
}

// towerOf is the i-th entry's tower by its neighbours at each level (of -1: the head), without addresses.
func towerOf(l []api.Entry, heights []int, i int) api.Tower {
	t, levels := api.Tower{Head: true}, 24
	if i >= 0 {
		t, levels = api.Tower{Key: l[i].Key, Value: api.Addr{Sum: sumOf([]byte{1}, l[i].Value)}}, heights[i]
	}
	for level := levels - 1; level >= 0; level-- {
		j := neighbour(heights, i, level)
		if j < 0 || heights[j] != level+1 {
			continue
		}
		u := towerOf(l, heights, j)
		t.Kids = append(t.Kids, api.Kid{Level: level, Key: u.Key, Count: countOf(u), Label: belowOf(u, all)})
	}
	return t
}

func heightsOf(l []api.Entry) []int {
	var heights []int
	for _, e := range l {
		heights = append(heights, heightOf(e.Key))
	}
	return heights
}

func headOf(l []api.Entry) api.Tower { return towerOf(l, heightsOf(l), -1) }

func rootOf(l []api.Entry) api.Sum {
	label := belowOf(headOf(l), all)
	return sumOf([]byte{0x14}, long(uint64(len(l))), label[:])
}

// entries are of keys and values that take turns.
func entries(l ...string) []api.Entry {
	var list []api.Entry
	for i := 0; i < len(l); i += 2 {
		list = append(list, api.Entry{Key: []byte(l[i]), Value: []byte(l[i+1])})
	}
	return list
}

// kid is one that can be, but for what its count is.
func kid(key string, count uint64) api.Kid {
	return api.Kid{
		Level: heightOf([]byte(key)) - 1, Key: []byte(key), Count: count,
		Addr: api.Addr{Sum: fill('A'), Nth: 3}, Label: fill('L'),
	}
}

func head(kids ...api.Kid) api.Tower { return api.Tower{Head: true, Kids: kids} }

func tower(key string, kids ...api.Kid) api.Tower {
	return api.Tower{Key: []byte(key), Value: api.Addr{Sum: fill('V'), Nth: 2}, Kids: kids}
}

// fullHead has a kid at each of its levels.
func fullHead() api.Tower {
	t := head()
	for _, key := range slices.Backward(byLevel) {
		t.Kids = append(t.Kids, kid(key, 1))
	}
	return t
}

// sameTower tells whether two are one; a nil text and an empty one are.
func sameTower(a, b api.Tower) bool {
	return a.Head == b.Head && bytes.Equal(a.Key, b.Key) && a.Value == b.Value && slices.EqualFunc(a.Kids, b.Kids, func(x, y api.Kid) bool {
		return x.Level == y.Level && bytes.Equal(x.Key, y.Key) && x.Count == y.Count && x.Addr == y.Addr && x.Label == y.Label
	})
}

func answers(t *testing.T, what string, got, want api.Errno) {
	t.Helper()
	if got != want {
		t.Errorf("%s: %d, want %d", what, got, want)
	}
}

func isText(t *testing.T, what string, got, want []byte) {
	t.Helper()
	if !bytes.Equal(got, want) {
		t.Errorf("%s: %.200x, want %.200x", what, got, want)
	}
}

func isSum(t *testing.T, what string, got, want api.Sum) {
	t.Helper()
	if got != want {
		t.Errorf("%s: %x, want %x", what, got, want)
	}
}

// valid holds a tower against an error; what Save answers of it hangs on that.
func valid(t *testing.T, what string, tower api.Tower, want api.Errno) {
	t.Helper()
	if got := node.Valid(tower); got != want {
		t.Errorf("7.4: %s: Valid = %d, want %d", what, got, want)
	}
	if got := validOf(tower); got != want {
		t.Errorf("7.4: %s: by its words it is %d, and the test wants %d", what, got, want)
	}
}

// roots holds a list's root label against the plain reckoning.
func roots(t *testing.T, what string, l []api.Entry) api.Sum {
	t.Helper()
	got, e := node.Root(l)
	if want := rootOf(l); got != want || e != api.OK {
		t.Errorf("7.6: %s: Root of %d entries = %x, %d, want %x, 0", what, len(l), got, e, want)
	}
	return got
}

func rootFails(t *testing.T, what string, l []api.Entry, want api.Errno) {
	t.Helper()
	if got, e := node.Root(l); got != (api.Sum{}) || e != want {
		t.Errorf("7.6: %s: Root = %x, %d, want no label, %d", what, got, e, want)
	}
}

// store is blobs over a fresh disk with three segments of 8192 bytes.
type store struct {
	d *disk.Disk
	b *blobs.Blobs
}

func newStore(t *testing.T) store {
	t.Helper()
	d, e := disk.New(50, 512)
	answers(t, "3.1: New", e, api.OK)
	l, e := segment.Open(d, 16, 0, make([]api.Mark, 3))
	answers(t, "5.2: Open", e, api.OK)
	b, e := blobs.Open(l)
	answers(t, "6.2: Open", e, api.OK)
	if b == nil {
		t.Fatal("6.2: no blobs")
	}
	return store{d, b}
}

func (s store) put(t *testing.T, kind byte, body []byte) api.Addr {
	t.Helper()
	a, e := s.b.Put(kind, body)
	answers(t, "6.3: Put", e, api.OK)
	return a
}

// saves holds a Save against the address of the tower's record.
func (s store) saves(t *testing.T, what string, tower api.Tower) api.Addr {
	t.Helper()
	want := api.Addr{Sum: sumOf([]byte{2}, recordOf(tower))}
	got, e := node.Save(s.b, tower)
	if got != want || e != api.OK {
		t.Errorf("7.5: %s: Save = %v, %d, want %v, 0", what, got, e, want)
	}
	return got
}

func (s store) saveFails(t *testing.T, what string, tower api.Tower, want api.Errno) {
	t.Helper()
	s.unchanged(t, what, func() {
		if got, e := node.Save(s.b, tower); got != (api.Addr{}) || e != want {
			t.Errorf("7.5: %s: Save = %v, %d, want no address, %d", what, got, e, want)
		}
	})
}

func (s store) loads(t *testing.T, what string, a api.Addr, want api.Tower) {
	t.Helper()
	s.unchanged(t, what, func() {
		if got, e := node.Load(s.b, a); !sameTower(got, want) || e != api.OK {
			t.Errorf("7.5: %s: Load = %.300v, %d, want %.300v, 0", what, got, e, want)
		}
	})
}

func (s store) loadFails(t *testing.T, what string, a api.Addr, want api.Errno) {
	t.Helper()
	s.unchanged(t, what, func() {
		if got, e := node.Load(s.b, a); !reflect.DeepEqual(got, api.Tower{}) || e != want {
			t.Errorf("7.5: %s: Load = %.300v, %d, want no tower, %d", what, got, e, want)
		}
	})
}

// view is all that blobs tell without their bodies.
type view struct {
	tail   api.Tail
	addrs  []api.Addr
	places []api.Place
	writes uint64
}

func (s store) view() view {
	v := view{tail: s.b.Log().Tail(), writes: s.d.Stats().Writes}
	for a, p := range s.b.Each() {
		v.addrs, v.places = append(v.addrs, a), append(v.places, p)
	}
	return v
}

func (s store) unchanged(t *testing.T, what string, call func()) {
	t.Helper()
	before := s.view()
	call()
	if now := s.view(); !reflect.DeepEqual(now, before) {
		t.Errorf("7.5: %s: now there is %v, and there was %v", what, now, before)
	}
}

// noise gives numbers that look like chance and are the same in every run.
type noise struct{ x uint64 }

func (n *noise) next() uint64 {
	n.x = n.x*6364136223846793005 + 1442695040888963407
	return bits.ReverseBytes64(n.x ^ n.x>>29)
}

func (n *noise) below(m int) int { return int(n.next() % uint64(m)) }

func (n *noise) text(length int) []byte {
	b := make([]byte, length)
	for i := range b {
		b[i] = byte(n.next())
	}
	return b
}

func (n *noise) sum() api.Sum { return api.Sum(n.text(32)) }

func (n *noise) addr() api.Addr { return api.Addr{Sum: n.sum(), Nth: uint8(n.next())} }

// number is small, or near to a bound, or any.
func (n *noise) number() uint64 {
	switch n.below(4) {
	case 0:
		return uint64(n.below(4))
	case 1:
		return last - 2 + uint64(n.below(5))
	case 2:
		return -uint64(n.below(4))
	}
	return n.next() >> n.below(64)
}

// level is one that can be, or just beside these, or any.
func (n *noise) level() int {
	if n.below(8) == 0 {
		return int(n.next())
	}
	return n.below(30) - 3
}

// anyTower makes no sense.
func (n *noise) anyTower() api.Tower {
	t := api.Tower{Head: n.below(2) == 0, Key: n.text(n.below(40)), Value: n.addr()}
	for range n.below(30) {
		t.Kids = append(t.Kids, api.Kid{Level: n.level(), Key: n.text(n.below(40)), Count: n.number(), Addr: n.addr(), Label: n.sum()})
	}
	return t
}

// goodTower is a valid one: the head, one with room for kids, or one without.
func (n *noise) goodTower() api.Tower {
	t, levels := head(), 24
	switch n.below(3) {
	case 0:
		t, levels = tower(lowest), heightOf([]byte(lowest))
	case 1:
		t, levels = tower(byLevel[n.below(24)]), 0
	}
	for level := levels - 1; level >= 0; level-- {
		if n.below(2) == 0 {
			t.Kids = append(t.Kids, api.Kid{Level: level, Key: []byte(byLevel[level]), Count: 1 + n.next()>>(7+n.below(57)), Addr: n.addr(), Label: n.sum()})
		}
	}
	if !t.Head {
		t.Value = n.addr()
	}
	return t
}

// entries is a list in order with keys out of few letters, so that many are alike in front.
func (n *noise) entries(most int) []api.Entry {
	var l []api.Entry
	for range n.below(most + 1) {
		key := n.text(n.below(5))
		for i := range key {
			key[i] = "\x00\x01a\xff"[key[i]%4]
		}
		l = append(l, api.Entry{Key: key, Value: n.text(n.below(6))})
	}
	slices.SortFunc(l, func(a, b api.Entry) int { return bytes.Compare(a.Key, b.Key) })
	return slices.CompactFunc(l, func(a, b api.Entry) bool { return bytes.Equal(a.Key, b.Key) })
}
