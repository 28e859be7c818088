package annals_test

import (
	"bytes"
	"crypto/sha256"
	"encoding/binary"
	"encoding/hex"
	"math/bits"
	"reflect"
	"slices"
	"strings"
	"testing"

	"witness/annals"
	"witness/api"
	"witness/blobs"
	"witness/disk"
	"witness/segment"
)

const last = 1 << 62 // the last version's number

func cat(parts ...[]byte) []byte { return bytes.Join(parts, nil) }

func long(n uint64) []byte { return binary.BigEndian.AppendUint64(nil, n) }

func number(n uint64) []byte { return binary.AppendUvarint(nil, n) }

func front(s api.Sum) string { return hex.EncodeToString(s[:4]) }

// told is a path in short.
func told(path []api.Sum) string {
	var l []string
	for _, s := range path {
		l = append(l, front(s))
	}
	return "[" + strings.Join(l, " ") + "]"
}

// What follows up to blobsOf is the document's words a second time, so that the program is not held against itself.

func sumOf(parts ...[]byte) api.Sum { return sha256.Sum256(cat(parts...)) }

func leafText(l api.Leaf) []byte { return cat([]byte{0x15}, long(l.Version), l.Label[:]) }

func forkText(left, right api.Sum) []byte { return cat([]byte{0x16}, left[:], right[:]) }

func leafSum(l api.Leaf) api.Sum { return sumOf(leafText(l)) }

func forkSum(left, right api.Sum) api.Sum { return sumOf(forkText(left, right)) }

// half is the greatest power of 2 that is less than n, n above 1.
func half(n uint64) uint64 {
	k := uint64(1)
	for 2*k < n {
		k *= 2
	}
	return k
}

// labels is the label over the n leaves from one on.
type labels func(from, n uint64) api.Sum

// labelsOf is that of a list.
func labelsOf(l []api.Leaf) labels {
	var over labels
	over = func(from, n uint64) api.Sum {
		switch n {
		case 0:
			return sumOf([]byte{0x15})
		case 1:
			return leafSum(l[from])
		}
		k := half(n)
		return forkSum(over(from, k), over(from+k, n-k))
	}
	return over
}

func headOf(l []api.Leaf) api.Head {
	n := uint64(len(l))
	return api.Head{Size: n, Label: labelsOf(l)(0, n)}
}

// pathTo is the path of the leaf i among the n from one on.
func pathTo(over labels, from, n, i uint64) []api.Sum {
	if n == 1 {
		return nil
	}
	k := half(n)
	if i < k {
		return append(pathTo(over, from, k, i), over(from+k, n-k))
	}
	return append(pathTo(over, from+k, n-k, i-k), over(from, k))
}

func stepsTo(over labels, from, m, n uint64, whole bool) []api.Sum {
	if m == n && whole {
		return nil
	}
	if m == n {
		return []api.Sum{over(from, n)}
	}
	k := half(n)
	if m <= k {
		return append(stepsTo(over, from, m, k, whole), over(from+k, n-k))
	}
	return append(stepsTo(over, from+k, m-k, n-k, false), over(from, k))
}

// growthTo is the path from the first m leaves to all n.
func growthTo(over labels, m, n uint64) []api.Sum {
	if m == 0 || m == n {
		return nil
	}
	return stepsTo(over, 0, m, n, true)
}

// shows is what Included answers.
func shows(h api.Head, i uint64, l api.Leaf, path []api.Sum) api.Errno {
	if i >= h.Size || h.Size > last+1 || l.Version != i {
		return api.ErrLeaf
	}
	none := func(uint64, uint64) api.Sum { return api.Sum{} }
	if len(path) != len(pathTo(none, 0, h.Size, i)) {
		return api.ErrPath
	}
	var up func(n, i uint64, path []api.Sum) api.Sum
	up = func(n, i uint64, path []api.Sum) api.Sum {
		if n == 1 {
			return leafSum(l)
		}
		k, top := half(n), len(path)-1
		if i < k {
			return forkSum(up(k, i, path[:top]), path[top])
		}
		return forkSum(path[top], up(n-k, i-k, path[:top]))
	}
	if up(h.Size, i, path) != h.Label {
		return api.ErrHead
	}
	return api.OK
}

// becomes is what Extends answers.
func becomes(old, now api.Head, path []api.Sum) api.Errno {
	if old.Size > now.Size || now.Size > last+1 {
		return api.ErrLeaf
	}
	none := func(uint64, uint64) api.Sum { return api.Sum{} }
	if len(path) != len(growthTo(none, old.Size, now.Size)) {
		return api.ErrPath
	}
	if old.Size == 0 {
		if old.Label != sumOf([]byte{0x15}) || now.Size == 0 && now.Label != old.Label {
			return api.ErrHead
		}
		return api.OK
	}
	var up func(m, n uint64, whole bool, path []api.Sum) (api.Sum, api.Sum)
	up = func(m, n uint64, whole bool, path []api.Sum) (api.Sum, api.Sum) {
		if m == n && whole {
			return old.Label, old.Label
		}
		if m == n {
			return path[0], path[0]
		}
		k, top := half(n), len(path)-1
		if m <= k {
			first, all := up(m, k, whole, path[:top])
			return first, forkSum(all, path[top])
		}
		first, all := up(m-k, n-k, false, path[:top])
		return forkSum(path[top], first), forkSum(path[top], all)
	}
	first, all := up(old.Size, now.Size, true, path)
	if first != old.Label || all != now.Label {
		return api.ErrHead
	}
	return api.OK
}

func leafRecord(l api.Leaf) []byte { return cat(number(l.Version), l.Label[:]) }

func limbRecord(l api.Limb) []byte { return cat(l.Addr.Sum[:], []byte{l.Addr.Nth}, l.Label[:]) }

func forkRecord(f api.Fork) []byte { return cat(limbRecord(f.Left), limbRecord(f.Right)) }

func leafLimb(l api.Leaf) api.Limb {
	return api.Limb{Addr: api.Addr{Sum: sumOf([]byte{3}, leafRecord(l))}, Label: leafSum(l)}
}

func forkLimb(left, right api.Limb) api.Limb {
	addr := api.Addr{Sum: sumOf([]byte{4}, forkRecord(api.Fork{Left: left, Right: right}))}
	return api.Limb{Addr: addr, Label: forkSum(left.Label, right.Label)}
}

// stored is the tree of a power of 2 leaves.
func stored(l []api.Leaf) api.Limb {
	if len(l) == 1 {
		return leafLimb(l[0])
	}
	m := len(l) / 2
	return forkLimb(stored(l[:m]), stored(l[m:]))
}

// sizes are the powers of 2 of n, the greatest first.
func sizes(n uint64) []uint64 {
	var l []uint64
	for bit := 63; bit >= 0; bit-- {
		if size := uint64(1) << bit; n&size != 0 {
			l = append(l, size)
		}
	}
	return l
}

func annalsOf(l []api.Leaf) api.Annal {
	a, from := api.Annal{Size: uint64(len(l))}, uint64(0)
	for _, size := range sizes(a.Size) {
		a.Peaks = append(a.Peaks, api.Peak{Size: size, Limb: stored(l[from : from+size])})
		from += size
	}
	return a
}

// forksOn are the forks of the tree over the n leaves from one on that are stored, on the way to the leaf i; it ends where it is done.
func forksOn(l []api.Leaf, from, n, i uint64, done func(from, n uint64) bool) []api.Addr {
	if done(from, n) {
		return nil
	}
	var forks []api.Addr
	k := half(n)
	if 2*k == n {
		forks = append(forks, stored(l[from:from+n]).Addr)
	}
	if i < from+k {
		return append(forks, forksOn(l, from, k, i, done)...)
	}
	return append(forks, forksOn(l, from+k, n-k, i, done)...)
}

// forksTo are those on the way to the leaf i, the topmost first.
func forksTo(l []api.Leaf, i uint64) []api.Addr {
	return forksOn(l, 0, uint64(len(l)), i, func(_, n uint64) bool { return n == 1 })
}

// forksFrom are those on the way to the last part of the first m leaves.
func forksFrom(l []api.Leaf, m uint64) []api.Addr {
	if m == 0 {
		return nil
	}
	return forksOn(l, 0, uint64(len(l)), m-1, func(from, n uint64) bool { return from+n == m })
}

// blobsOf are the addresses of all that annals with these leaves put, in that order.
func blobsOf(l []api.Leaf) []api.Addr {
	var addrs []api.Addr
	for i := range l {
		for size := 1; (i+1)%size == 0; size *= 2 {
			addrs = append(addrs, stored(l[i+1-size:i+1]).Addr)
		}
	}
	return addrs
}

func answers(t *testing.T, what string, got, want api.Errno) {
	t.Helper()
	if got != want {
		t.Errorf("%s: %d, want %d", what, got, want)
	}
}

func sameAnnals(a, b api.Annal) bool { return a.Size == b.Size && slices.Equal(a.Peaks, b.Peaks) }

func isZero(a api.Annal) bool { return a.Size == 0 && a.Peaks == nil }

// leafOf is the i-th leaf, with a label of its own.
func leafOf(i uint64) api.Leaf { return api.Leaf{Version: i, Label: sumOf(long(i))} }

// leavesOf are the first n.
func leavesOf(n int) []api.Leaf {
	l := make([]api.Leaf, n)
	for i := range l {
		l[i] = leafOf(uint64(i))
	}
	return l
}

// edges are numbers of leaves: the first few, and those about powers of 2.
func edges(most int) []int {
	var l []int
	for n := range 36 {
		l = append(l, n)
	}
	for n := 64; n <= most; n *= 2 {
		l = append(l, n-1, n, n+1)
	}
	return l
}

// store is blobs over a disk.
type store struct {
	t *testing.T
	d *disk.Disk
	b *blobs.Blobs
}

// newStore is one over a fresh disk.
func newStore(t *testing.T, sectors, size, span int) store {
	t.Helper()
	d, e := disk.New(sectors, size)
	answers(t, "3.1: New", e, api.OK)
	l, e := segment.Open(d, span, 0, make([]api.Mark, segment.Count(sectors, span)))
	answers(t, "5.2: Open", e, api.OK)
	b, e := blobs.Open(l)
	answers(t, "6.2: Open", e, api.OK)
	if b == nil {
		t.Fatal("6.2: no blobs")
	}
	return store{t, d, b}
}

// wide has room for all that a test puts.
func wide(t *testing.T) store {
	t.Helper()
	return newStore(t, 2050, 512, 64)
}

// grown are annals with these leaves, one behind the other.
func (s store) grown(l []api.Leaf) api.Annal {
	s.t.Helper()
	var a api.Annal
	for _, leaf := range l {
		var e api.Errno
		if a, e = annals.Append(s.b, a, leaf); e != api.OK {
			s.t.Fatalf("13.2: Append of version %d: %d", leaf.Version, e)
		}
	}
	return a
}

// view is all that blobs tell without their bodies.
type view struct {
	tail   api.Tail
	addrs  []api.Addr
	places []api.Place
	writes uint64
}

func (s store) view() view {
	v := view{tail: s.b.Log().Tail(), writes: s.d.Stats().Writes}
	for a, p := range s.b.Each() {
		v.addrs, v.places = append(v.addrs, a), append(v.places, p)
	}
	return v
}

// unchanged holds that a call writes nothing.
func (s store) unchanged(what string, call func()) {
	s.t.Helper()
	before := s.view()
	call()
	if now := s.view(); !reflect.DeepEqual(now, before) {
		s.t.Errorf("%s: it wrote: %d blobs by %d writes, and there were %d by %d", what, len(now.addrs), now.writes, len(before.addrs), before.writes)
	}
}

// inOrder are the addresses that are there, in the order in which their frames were appended.
func (s store) inOrder() []api.Addr {
	v := s.view()
	order := make([]int, len(v.addrs))
	for i := range order {
		order[i] = i
	}
	slices.SortFunc(order, func(i, j int) int {
		a, b := v.places[i], v.places[j]
		return (a.Seg-b.Seg)<<32 + a.At - b.At // the segments of a fresh disk are begun in their order
	})
	var l []api.Addr
	for _, i := range order {
		l = append(l, v.addrs[i])
	}
	return l
}

// off makes the power go.
func (s store) off() {
	s.t.Helper()
	s.d.Fuse(0)
	answers(s.t, "3.5: Flush", s.d.Flush(), api.ErrPower)
}

// on gives the power back, with all that was written.
func (s store) on() {
	s.d.Crash(api.Crash{Keep: slices.Repeat([]bool{true}, len(s.d.Pending())), Torn: -1})
}

// turn lets a bit of a blob's frame turn.
func (s store) turn(a api.Addr) {
	s.t.Helper()
	p, ok := s.b.Where(a)
	if !ok {
		s.t.Fatalf("6.5: no blob %s", front(a.Sum))
	}
	at := p.At + p.Len - 5 // the last byte of its body
	span := s.b.Log().Size() / s.d.Size()
	answers(s.t, "3.11: Rot", s.d.Rot(2+p.Seg*span+at/s.d.Size(), at%s.d.Size(), 1), api.OK)
}

// forget lets one blob be there no more.
func (s store) forget(a api.Addr) {
	s.t.Helper()
	var l []api.Addr
	for other := range s.b.Each() {
		if other != a {
			l = append(l, other)
		}
	}
	if n := s.b.Keep(l); n != 1 {
		s.t.Fatalf("6.7: Keep: %d", n)
	}
}

func (s store) put(kind byte, body []byte) api.Addr {
	s.t.Helper()
	a, e := s.b.Put(kind, body)
	answers(s.t, "6.3: Put", e, api.OK)
	return a
}

// leaf is found to be this one.
func (s store) leaf(what string, a api.Annal, i uint64, want api.Leaf) {
	s.t.Helper()
	if l, e := annals.Leaf(s.b, a, i); l != want || e != api.OK {
		s.t.Errorf("13.4: %s: leaf %d of %d: %d, %s, %d, want %d, %s, 0", what, i, a.Size, l.Version, front(l.Label), e, want.Version, front(want.Label))
	}
}

func (s store) noLeaf(what string, a api.Annal, i uint64, want api.Errno) {
	s.t.Helper()
	if l, e := annals.Leaf(s.b, a, i); l != (api.Leaf{}) || e != want {
		s.t.Errorf("13.4: %s: leaf %d of %d: %d, %s, %d, want %d", what, i, a.Size, l.Version, front(l.Label), e, want)
	}
}

func (s store) inclusion(what string, a api.Annal, i uint64, want []api.Sum) {
	s.t.Helper()
	if p, e := annals.Inclusion(s.b, a, i); !slices.Equal(p, want) || e != api.OK {
		s.t.Errorf("13.5: %s: Inclusion of %d in %d: %s, %d, want %s, 0", what, i, a.Size, told(p), e, told(want))
	}
}

func (s store) noInclusion(what string, a api.Annal, i uint64, want api.Errno) {
	s.t.Helper()
	if p, e := annals.Inclusion(s.b, a, i); p != nil || e != want {
		s.t.Errorf("13.5: %s: Inclusion of %d in %d: %s, %d, want %d", what, i, a.Size, told(p), e, want)
	}
}

func (s store) consistency(what string, a api.Annal, size uint64, want []api.Sum) {
	s.t.Helper()
	if p, e := annals.Consistency(s.b, a, size); !slices.Equal(p, want) || e != api.OK {
		s.t.Errorf("13.5: %s: Consistency from %d to %d: %s, %d, want %s, 0", what, size, a.Size, told(p), e, told(want))
	}
}

func (s store) noConsistency(what string, a api.Annal, size uint64, want api.Errno) {
	s.t.Helper()
	if p, e := annals.Consistency(s.b, a, size); p != nil || e != want {
		s.t.Errorf("13.5: %s: Consistency from %d to %d: %s, %d, want %d", what, size, a.Size, told(p), e, want)
	}
}

func (s store) noAppend(what string, a api.Annal, l api.Leaf, want api.Errno) {
	s.t.Helper()
	peaks := slices.Clone(a.Peaks)
	if next, e := annals.Append(s.b, a, l); !isZero(next) || e != want {
		s.t.Errorf("13.2: %s: Append of version %d to %d leaves: %v, %d, want %d", what, l.Version, a.Size, next, e, want)
	}
	if !slices.Equal(peaks, a.Peaks) {
		s.t.Errorf("13.2: %s: the annals that were handed in are others", what)
	}
}

// included holds Included against the document's words.
func included(t *testing.T, what string, h api.Head, i uint64, l api.Leaf, path []api.Sum) {
	t.Helper()
	if e, want := annals.Included(h, i, l, path), shows(h, i, l, path); e != want {
		t.Errorf("13.6: %s: leaf %d (version %d) of %d: %d, want %d", what, i, l.Version, h.Size, e, want)
	}
}

// extends holds Extends against the document's words.
func extends(t *testing.T, what string, old, now api.Head, path []api.Sum) {
	t.Helper()
	if e, want := annals.Extends(old, now, path), becomes(old, now, path); e != want {
		t.Errorf("13.7: %s: from %d to %d with %d labels: %d, want %d", what, old.Size, now.Size, len(path), e, want)
	}
}

// noise gives numbers that look like chance and are the same in every run.
type noise struct{ x uint64 }

func (n *noise) next() uint64 {
	n.x = n.x*6364136223846793005 + 1442695040888963407
	return bits.ReverseBytes64(n.x ^ n.x>>29)
}

func (n *noise) below(m uint64) uint64 { return n.next() % m }

func (n *noise) sum() api.Sum { return sumOf(long(n.next())) }

func (n *noise) sums(many int) []api.Sum {
	var l []api.Sum
	for range many {
		l = append(l, n.sum())
	}
	return l
}
