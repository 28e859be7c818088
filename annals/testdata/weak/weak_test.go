// Package weak holds annals against paths that are taken and wrong. It is laid beside a copy of the program whose digests have one byte that is not 0: of such ones many texts share each.
package weak

import (
	"bytes"
	"fmt"
	"math/rand"
	"testing"

	"witness/annals"
	"witness/api"
	"witness/blobs"
	"witness/digest"
	"witness/disk"
	"witness/extract"
	"witness/segment"
)

func must(t *testing.T, what string, e api.Errno) {
	t.Helper()
	if e != api.OK {
		t.Fatalf("%s: %d", what, e)
	}
}

func store(t *testing.T) *blobs.Blobs {
	t.Helper()
	d, e := disk.New(1026, 512)
	must(t, "3.1: New", e)
	l, e := segment.Open(d, 128, 0, make([]api.Mark, segment.Count(1026, 128)))
	must(t, "5.2: Open", e)
	b, e := blobs.Open(l)
	must(t, "6.2: Open", e)
	return b
}

func grown(t *testing.T, b *blobs.Blobs, l []api.Leaf) api.Annal {
	t.Helper()
	var a api.Annal
	for _, leaf := range l {
		next, e := annals.Append(b, a, leaf)
		must(t, "13.2: Append", e)
		a = next
	}
	return a
}

// anySum is one whose bytes are few, or many.
func anySum(r *rand.Rand) api.Sum {
	s := api.Sum{byte(r.Intn(256))}
	if r.Intn(3) == 0 {
		r.Read(s[:])
	}
	return s
}

func leafOf(r *rand.Rand, i int) api.Leaf { return api.Leaf{Version: uint64(i), Label: anySum(r)} }

func leaves(r *rand.Rand, n int) []api.Leaf {
	var l []api.Leaf
	for i := range n {
		l = append(l, leafOf(r, i))
	}
	return l
}

// part is the n leaves from one on.
type part struct{ from, n int }

func half(n int) int {
	k := 1
	for 2*k < n {
		k *= 2
	}
	return k
}

// down are the parts over the leaf i of n leaves, all of them first.
func down(i, n int) []part {
	l, p := []part(nil), part{0, n}
	for ; p.n > 1; l = append(l, p) {
		if l == nil {
			l = append(l, p)
		}
		if k := half(p.n); i < p.from+k {
			p.n = k
		} else {
			p = part{p.from + k, p.n - k}
		}
	}
	if l == nil {
		l = append(l, p)
	}
	return l
}

// texts are what is hashed at each part on the way from a leaf up.
func texts(n int, l api.Leaf, path []api.Sum) map[part][]byte {
	way := down(int(l.Version), n)
	told := map[part][]byte{}
	text := annals.LeafText(l)
	for j := len(way) - 1; ; j-- {
		told[way[j]] = text
		if j == 0 {
			return told
		}
		own, beside := digest.Of(text), path[len(way)-1-j]
		if way[j].from == way[j-1].from {
			text = annals.ForkText(own, beside)
		} else {
			text = annals.ForkText(beside, own)
		}
	}
}

// TestDigestsAreWeak: else what follows tells nothing.
func TestDigestsAreWeak(t *testing.T) {
	sums := map[api.Sum]bool{}
	for i := range 10000 {
		sums[digest.Of([]byte(fmt.Sprint(i)))] = true
	}
	if len(sums) != 256 {
		t.Fatalf("there are %d digests", len(sums))
	}
}

// TestClash: two ways to a place that are both taken; they part at the top, further down, or at the leaves alone.
func TestClash(t *testing.T) {
	r := rand.New(rand.NewSource(1))
	met := map[string]int{}
	for _, n := range []int{1, 2, 3, 4, 5, 7, 8, 9, 13, 16, 17} {
		for range 10000 {
			list := leaves(r, n)
			i := r.Intn(n)
			h := annals.Over(list)
			one, path := list[i], honest(list, i)
			two, other := one, append([]api.Sum(nil), path...)
			if r.Intn(4) > 0 {
				two.Label = anySum(r)
			}
			for j := range r.Intn(len(path) + 1) {
				other[j] = anySum(r)
			}
			if annals.Included(h, uint64(i), two, other) != api.OK {
				continue
			}
			if r.Intn(2) == 0 {
				one, path, two, other = two, other, one, path
			}
			holdClash(t, h, one, path, two, other, met)
		}
	}
	for _, what := range []string{"one leaf by two paths", "one leaf by one path", "at the top", "further down", "at the leaves", "of the only leaf"} {
		if met[what] < 10 {
			t.Errorf("13.8: too few ways that part %s: %v", what, met)
		}
	}
}

// honest is the path of the leaf i in a list.
func honest(l []api.Leaf, i int) []api.Sum {
	if len(l) == 1 {
		return nil
	}
	if k := half(len(l)); i < k {
		return append(honest(l[:k], i), annals.Over(l[k:]).Label)
	} else {
		return append(honest(l[k:], i-k), annals.Over(l[:k]).Label)
	}
}

// holdClash holds Clash against two ways that are taken.
func holdClash(t *testing.T, h api.Head, l api.Leaf, path []api.Sum, m api.Leaf, other []api.Sum, met map[string]int) {
	t.Helper()
	n := int(h.Size)
	one, two := texts(n, l, path), texts(n, m, other)
	where, want := "", api.Twins{}
	for j, p := range down(int(l.Version), n) {
		if !bytes.Equal(one[p], two[p]) {
			want = api.Twins{One: one[p], Two: two[p]}
			switch {
			case n == 1:
				where = "of the only leaf"
			case j == 0:
				where = "at the top"
			case p.n == 1:
				where = "at the leaves"
			default:
				where = "further down"
			}
			break
		}
	}
	twins, e := annals.Clash(h, l.Version, l, path, m, other)
	if l == m {
		if e != api.ErrHonest || twins.One != nil || twins.Two != nil {
			t.Errorf("13.8: one leaf: %x, %x, %d", twins.One, twins.Two, e)
		}
		if met["one leaf by one path"]++; where != "" {
			met["one leaf by two paths"]++
		}
		return
	}
	met[where]++
	if e != api.OK || !bytes.Equal(twins.One, want.One) || !bytes.Equal(twins.Two, want.Two) || !extract.Shown(twins) {
		t.Errorf("13.8, 13.11: leaf %d of %d: %x, %x, %d, want %x, %x, 0", l.Version, n, twins.One, twins.Two, e, want.One, want.Two)
	}
	holdTwinsMemory(t, twins, path, other)
}

// holdTwinsMemory holds that twins share no memory.
func holdTwinsMemory(t *testing.T, twins api.Twins, path, other []api.Sum) {
	t.Helper()
	two := bytes.Clone(twins.Two)
	in := append(append([]api.Sum(nil), path...), other...)
	clear(twins.One[:cap(twins.One)])
	if !bytes.Equal(twins.Two, two) {
		t.Errorf("0.4: twins share memory")
	}
	clear(twins.Two[:cap(twins.Two)])
	for i, s := range append(append([]api.Sum(nil), path...), other...) {
		if s != in[i] {
			t.Errorf("0.4: twins share memory with a path")
		}
	}
}

// growthTexts are what is hashed on a path from the first m leaves to all n: in the tree over the first ones, and in the one over all.
func growthTexts(m, n int, old api.Sum, path []api.Sum) (before, after map[part][]byte) {
	before, after = map[part][]byte{}, map[part][]byte{}
	var up func(p part, first int, whole bool, path []api.Sum) (api.Sum, api.Sum)
	up = func(p part, first int, whole bool, path []api.Sum) (api.Sum, api.Sum) {
		switch {
		case first == p.n && whole:
			return old, old
		case first == p.n:
			return path[0], path[0]
		}
		k, beside := half(p.n), path[len(path)-1]
		if first <= k {
			b, a := up(part{p.from, k}, first, whole, path[:len(path)-1])
			after[p] = annals.ForkText(a, beside)
			return b, digest.Of(after[p])
		}
		b, a := up(part{p.from + k, p.n - k}, first-k, false, path[:len(path)-1])
		before[part{p.from, first}], after[p] = annals.ForkText(beside, b), annals.ForkText(beside, a)
		return digest.Of(before[part{p.from, first}]), digest.Of(after[p])
	}
	up(part{0, n}, m, true, path)
	return before, after
}

// reckoned are twins at one place of two of the four lists of texts.
func reckoned(lists ...map[part][]byte) bool {
	one, two, before, after := lists[0], lists[1], lists[2], lists[3]
	for _, pair := range [][2]map[part][]byte{{one, before}, {two, after}, {one, two}} {
		for p, text := range pair[0] {
			if other, there := pair[1][p]; there && extract.Shown(api.Twins{One: text, Two: other}) {
				return true
			}
		}
	}
	return false
}

// TestGrowthBinds: where one head is shown to have become another, and unlike leaves are shown at one place under the two, twins stand at one place of what was hashed.
func TestGrowthBinds(t *testing.T) {
	r := rand.New(rand.NewSource(2))
	met := map[string]int{}
	for range 50000 {
		n := 1 + r.Intn(12)
		m := 1 + r.Intn(n)
		list, older := leaves(r, n), leaves(r, m)
		if r.Intn(2) == 0 {
			older = append([]api.Leaf(nil), list[:m]...)
			older[r.Intn(m)].Label = anySum(r)
		}
		path := growth(list, m, true)
		sort := "the newer head's path"
		if len(path) > 0 && r.Intn(2) == 0 {
			path[r.Intn(len(path))] = anySum(r)
			sort = "another path"
		}
		old, now := annals.Over(older), annals.Over(list)
		if sort == "another path" && len(path) > 1 && r.Intn(2) == 0 { // heads that this path shows
			before, after := growthTexts(m, n, old.Label, path)
			if text, there := before[part{0, m}]; there {
				old.Label = digest.Of(text)
			}
			now.Label = digest.Of(after[part{0, n}])
		}
		if annals.Extends(old, now, path) != api.OK {
			continue
		}
		before, after := growthTexts(m, n, old.Label, path)
		for i := range m {
			a, b := older[i], list[i]
			pa, pb := honest(older, i), honest(list, i)
			if a == b || annals.Included(old, uint64(i), a, pa) != api.OK || annals.Included(now, uint64(i), b, pb) != api.OK {
				continue
			}
			met[sort]++
			if !reckoned(texts(m, a, pa), texts(n, b, pb), before, after) {
				t.Errorf("13.12: from %d to %d, leaf %d: no twins can be reckoned", m, n, i)
			}
		}
	}
	for _, sort := range []string{"the newer head's path", "another path"} {
		if met[sort] < 30 {
			t.Errorf("13.12: too few of %s: %v", sort, met)
		}
	}
}

// growth is the path from the first m leaves of a list to all.
func growth(l []api.Leaf, m int, whole bool) []api.Sum {
	switch {
	case m == len(l) && whole:
		return nil
	case m == len(l):
		return []api.Sum{annals.Over(l).Label}
	}
	k := half(len(l))
	if m <= k {
		return append(growth(l[:k], m, whole), annals.Over(l[k:]).Label)
	}
	return append(growth(l[k:], m-k, false), annals.Over(l[:k]).Label)
}

// TestBlobsThatShareDigests: annals grow and are read alike.
func TestBlobsThatShareDigests(t *testing.T) {
	r := rand.New(rand.NewSource(3))
	b := store(t)
	list := leaves(r, 300)
	a := grown(t, b, list)
	shared := 0
	for addr := range b.Each() {
		if addr.Nth > 0 {
			shared++
		}
	}
	if shared < 100 {
		t.Fatalf("only %d blobs share their digest with another one", shared)
	}
	h := annals.Head(a)
	if h != annals.Over(list) {
		t.Error("13.9: another head")
	}
	for i, leaf := range list {
		if l, e := annals.Leaf(b, a, uint64(i)); l != leaf || e != api.OK {
			t.Errorf("13.9: leaf %d: %v, %d", i, l, e)
		}
		path, e := annals.Inclusion(b, a, uint64(i))
		must(t, "13.5: Inclusion", e)
		must(t, "13.10: Included", annals.Included(h, uint64(i), leaf, path))
		path, e = annals.Consistency(b, a, uint64(i))
		must(t, "13.5: Consistency", e)
		must(t, "13.10: Extends", annals.Extends(annals.Over(list[:i]), h, path))
	}
}

// TestDigestsAreUsedUp: 256 blobs have the digest of one that Append puts.
func TestDigestsAreUsedUp(t *testing.T) {
	r := rand.New(rand.NewSource(4))
	met := map[int]bool{}
	for range 4 {
		list := leaves(r, 8)
		for j := range 4 {
			b := store(t)
			a := grown(t, b, list[:7])
			sums := putSums(t, b, a, list[7])
			for i, many := 0, uint8(0); ; i++ {
				body := []byte(fmt.Sprint(i))
				if blobs.Digest(api.KindValue, body) != sums[j] {
					continue
				}
				addr, e := b.Put(api.KindValue, body)
				must(t, "6.3: Put", e)
				if many = addr.Nth; many == 255 {
					break
				}
			}
			first := 0
			for sums[first] != sums[j] {
				first++
			}
			before := b.Len()
			next, e := annals.Append(b, a, list[7])
			if next.Size != 0 || next.Peaks != nil || e != api.ErrTwins || b.Len()-before != first {
				t.Errorf("13.2: the digest of blob %d is used up: %v, %d, %d blobs more", first, next, e, b.Len()-before)
			}
			met[first] = true
		}
	}
	if len(met) != 4 {
		t.Errorf("13.2: blobs whose digests were used up: %v", met)
	}
}

// putSums are the digests of the four blobs that Append puts, in that order.
func putSums(t *testing.T, b *blobs.Blobs, a api.Annal, l api.Leaf) []api.Sum {
	t.Helper()
	must(t, "6.8: Begin", b.Begin())
	there := map[api.Addr]bool{}
	for addr := range b.Each() {
		there[addr] = true
	}
	_, e := annals.Append(b, a, l)
	must(t, "13.2: Append", e)
	var sums []api.Sum
	var ends []int
	for addr, place := range b.Each() {
		if there[addr] {
			continue
		}
		at := 0
		for at < len(ends) && ends[at] < place.At {
			at++
		}
		sums = append(sums[:at], append([]api.Sum{addr.Sum}, sums[at:]...)...)
		ends = append(ends[:at], append([]int{place.At}, ends[at:]...)...)
	}
	must(t, "6.8: Undo", b.Undo())
	if len(sums) != 4 {
		t.Fatalf("13.2: Append puts %d blobs", len(sums))
	}
	return sums
}
