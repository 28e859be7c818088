// Package weak holds extract against proofs that are taken and wrong. It is laid beside a copy of the program whose digests have one byte that is not 0: of such ones many texts share each.
package weak

import (
	"bytes"
	"fmt"
	"maps"
	"math/rand"
	"slices"
	"testing"

	"witness/api"
	"witness/blobs"
	"witness/codec"
	"witness/digest"
	"witness/disk"
	"witness/extract"
	"witness/node"
	"witness/prove"
	"witness/segment"
	"witness/skip"
	"witness/verify"
)

var all = api.Span{Open: true}

func must(t *testing.T, what string, e api.Errno) {
	t.Helper()
	if e != api.OK {
		t.Fatalf("%s: %d", what, e)
	}
}

func store(t *testing.T) *blobs.Blobs {
	t.Helper()
	d, e := disk.New(1026, 512)
	must(t, "3.1: New", e)
	l, e := segment.Open(d, 128, 0, make([]api.Mark, segment.Count(1026, 128)))
	must(t, "5.2: Open", e)
	b, e := blobs.Open(l)
	must(t, "6.2: Open", e)
	return b
}

// planted is the tree of a map, in blobs of its own.
func planted(t *testing.T, m map[string]string) (*blobs.Blobs, api.Tree) {
	t.Helper()
	b := store(t)
	x, e := skip.Empty(b)
	must(t, "8.1: Empty", e)
	for _, key := range slices.Sorted(maps.Keys(m)) {
		x, e = skip.Put(b, x, []byte(key), []byte(m[key]))
		must(t, "8.5: Put", e)
	}
	must(t, "8.7: Check", skip.Check(b, x))
	return b, x
}

func listOf(m map[string]string) []api.Entry {
	var l []api.Entry
	for _, key := range slices.Sorted(maps.Keys(m)) {
		l = append(l, api.Entry{Key: []byte(key), Value: []byte(m[key])})
	}
	return l
}

func label(m map[string]string) api.Sum {
	sum, _ := node.Root(listOf(m))
	return sum
}

// key is one out of few, the empty one among them.
func key(r *rand.Rand) string {
	letters := []string{"", "a", "b", "c", "d", "e", "k", "m", "x", "z", "\xff"}
	return []string{"", "a"}[r.Intn(2)] + letters[r.Intn(len(letters))]
}

func chance(r *rand.Rand, size int) map[string]string {
	m := map[string]string{}
	for range size {
		m[key(r)] = fmt.Sprint(r.Intn(1000))
	}
	return m
}

// edited is a map in which one or two keys are put, changed or gone.
func edited(r *rand.Rand, m map[string]string) map[string]string {
	m = maps.Clone(m)
	for range 1 + r.Intn(2) {
		keys := slices.Sorted(maps.Keys(m))
		if len(keys) > 0 && r.Intn(3) == 0 {
			delete(m, keys[r.Intn(len(keys))])
		} else if len(keys) > 0 && r.Intn(2) == 0 {
			m[keys[r.Intn(len(keys))]] = fmt.Sprint(r.Intn(100000))
		} else {
			m[key(r)] = fmt.Sprint(r.Intn(100000))
		}
	}
	return m
}

func spanOf(r *rand.Rand) api.Span {
	s := api.Span{Lo: []byte(key(r)), Hi: []byte(key(r)), Open: r.Intn(3) == 0}
	switch c := bytes.Compare(s.Lo, s.Hi); {
	case c > 0:
		s.Lo, s.Hi = s.Hi, s.Lo
	case c == 0:
		s.Open = true
	}
	return s
}

// first is the first place at which two lists part.
func first(a, b [][]byte) (api.Twins, bool) {
	for i := range a {
		if !bytes.Equal(a[i], b[i]) {
			return api.Twins{One: a[i], Two: b[i]}, true
		}
	}
	return api.Twins{}, len(a) != len(b)
}

func same(a, b api.Twins) bool { return bytes.Equal(a.One, b.One) && bytes.Equal(a.Two, b.Two) }

// unlike tells in what two answers are unlike; "" if in nothing.
func unlike(a, b api.Answer) string {
	switch {
	case a.Count != b.Count:
		return "another count"
	case a.Rank != b.Rank:
		return "another rank"
	case len(a.Entries) < len(b.Entries):
		return "a key that is not there"
	case len(a.Entries) > len(b.Entries):
		return "a key that is left out"
	}
	for i, e := range a.Entries {
		switch {
		case !bytes.Equal(e.Key, b.Entries[i].Key):
			return "another key"
		case !bytes.Equal(e.Value, b.Entries[i].Value):
			return "another value"
		}
	}
	return ""
}

// hold holds Span against a proof that verify takes under a tree's label; what it shows instead of what the tree has is counted.
func hold(t *testing.T, b *blobs.Blobs, x api.Tree, s api.Span, proof []byte, met map[string]int) {
	t.Helper()
	shown, e := verify.Span(x.Label, s, proof)
	must(t, "11.1: Span", e)
	honest, e := extract.Honest(b, x, s)
	must(t, "12.2: Honest", e)
	p, _ := codec.ReadProof(proof)
	texts, e := extract.Texts(s, p)
	must(t, "12.1: Texts", e)
	want, apart := first(honest, texts)
	twins, e := extract.Span(b, x, s, proof)
	if !apart {
		met["honest"]++
		if e != api.ErrHonest || twins.One != nil || twins.Two != nil {
			t.Errorf("12.3: the tree's own texts: %x, %x, %d", twins.One, twins.Two, e)
		}
	} else if e != api.OK || !same(twins, want) || !extract.Shown(twins) {
		t.Errorf("12.3, 12.4: twins: %x, %x, %d, want %x, %x, 0", twins.One, twins.Two, e, want.One, want.Two)
	}
	own, e := prove.Span(b, x, s)
	if e != api.OK {
		return // a tree that is not whole
	}
	truth, e := verify.Span(x.Label, s, own)
	if e != api.OK {
		return
	}
	wrong := unlike(truth, shown)
	if wrong != "" && !apart {
		t.Errorf("12.4: a proof shows %s, and its texts are the tree's", wrong)
	}
	if wrong == "" && apart {
		wrong = "a text that is not shown"
	}
	met[wrong]++
}

// TestDigestsAreWeak: else what follows tells nothing.
func TestDigestsAreWeak(t *testing.T) {
	texts := map[api.Sum]string{}
	for i := range 10000 {
		text := fmt.Sprint(i)
		sum := digest.Of([]byte(text))
		if other, there := texts[sum]; there && !extract.Shown(api.Twins{One: []byte(text), Two: []byte(other)}) {
			t.Fatalf("12.6: %q, %q are not shown", text, other)
		}
		texts[sum] = text
	}
	if len(texts) != 256 {
		t.Fatalf("there are %d digests", len(texts))
	}
	if x := []byte("x"); extract.Shown(api.Twins{One: x, Two: bytes.Clone(x)}) || extract.Shown(api.Twins{}) || extract.Shown(api.Twins{One: []byte{}}) {
		t.Error("12.6: equal texts are shown")
	}
}

// TestMapsWithOneLabel: twins out of each pair, and wrong proofs of one for the other.
func TestMapsWithOneLabel(t *testing.T) {
	r := rand.New(rand.NewSource(1))
	met, pairs := map[string]int{}, 0
	for range 40 {
		m := chance(r, 1+r.Intn(14))
		root := label(m)
		b, x := planted(t, m)
		for range 800 {
			other := edited(r, m)
			if label(other) != root || maps.Equal(m, other) {
				continue
			}
			pairs++
			c, y := planted(t, other)
			one, _ := extract.Honest(b, x, all)
			two, _ := extract.Honest(c, y, all)
			want, apart := first(one, two)
			twins, e := extract.Maps(listOf(m), listOf(other))
			if !apart || e != api.OK || !same(twins, want) || !extract.Shown(twins) {
				t.Errorf("12.5: %v, %v: %x, %x, %d, want %x, %x, 0", m, other, twins.One, twins.Two, e, want.One, want.Two)
			}
			for range 8 {
				s := spanOf(r)
				proof, e := prove.Span(c, y, s)
				must(t, "10.2: Span", e)
				hold(t, b, x, s, proof, met)
			}
		}
		for range 20 {
			s := spanOf(r)
			proof, e := prove.Span(b, x, s)
			must(t, "10.2: Span", e)
			if twins, e := extract.Span(b, x, s, proof); e != api.ErrHonest || twins.One != nil || twins.Two != nil {
				t.Errorf("12.3: an honest proof: %x, %x, %d", twins.One, twins.Two, e)
			}
		}
	}
	enough(t, pairs, met, "another count", "another rank", "a key that is not there", "a key that is left out", "another value", "a text that is not shown", "honest")
}

// enough holds that there were enough proofs that are taken, and of each of these sorts.
func enough(t *testing.T, pairs int, met map[string]int, sorts ...string) {
	t.Helper()
	if pairs < 40 {
		t.Errorf("there were only %d", pairs)
	}
	for _, what := range sorts {
		if met[what] == 0 {
			t.Errorf("no proof that is taken showed %s: %v", what, met)
		}
	}
}

// twisted is a proof in which one thing is changed, such that it may be taken still.
func twisted(r *rand.Rand, p api.Proof) api.Proof {
	p.Ops = slices.Clone(p.Ops)
	o := &p.Ops[r.Intn(len(p.Ops))]
	switch r.Intn(4) {
	case 0:
		o.Value = []byte(fmt.Sprint(r.Intn(100000)))
	case 1:
		o.Count = uint64(r.Intn(30))
	case 2:
		o.Sum[0] = byte(r.Intn(256))
	default:
		p.Count = uint64(r.Intn(60))
	}
	return p
}

// TestTwistedProofs: a tree's own proof with one thing or two changed.
func TestTwistedProofs(t *testing.T) {
	r := rand.New(rand.NewSource(2))
	met, taken := map[string]int{}, 0
	for range 60 {
		b, x := planted(t, chance(r, 1+r.Intn(14)))
		for range 1000 {
			s := spanOf(r)
			p, e := prove.Ops(b, x, s)
			must(t, "10.1: Ops", e)
			own := codec.Proof(p)
			for range 1 + r.Intn(2) {
				p = twisted(r, p)
			}
			proof := codec.Proof(p)
			if bytes.Equal(proof, own) {
				continue
			}
			if _, e := verify.Span(x.Label, s, proof); e != api.OK {
				if twins, f := extract.Span(b, x, s, proof); f != e || twins.One != nil || twins.Two != nil {
					t.Errorf("12.3: a proof that is not taken: %x, %x, %d, want %d", twins.One, twins.Two, f, e)
				}
				continue
			}
			taken++
			hold(t, b, x, s, proof, met)
		}
	}
	enough(t, taken, met, "another count", "another rank", "another value", "a text that is not shown")
}

// tall is the n-th key of that height that begins with a text.
func tall(front string, height, n int) []byte {
	for i := 0; ; i++ {
		if key := []byte(fmt.Sprint(front, i)); node.Height(key) == height {
			if n--; n < 0 {
				return key
			}
		}
	}
}

// TestTreesThatAreNotWhole: a tower hangs at two places; twins are shown all the same.
func TestTreesThatAreNotWhole(t *testing.T) {
	r := rand.New(rand.NewSource(3))
	met, pairs := map[string]int{}, 0
	for i := range 20 {
		b := store(t)
		v, e := b.Put(api.KindValue, []byte("v"))
		must(t, "6.3: Put", e)
		saved := func(w api.Tower) api.Kid {
			a, e := node.Save(b, w)
			must(t, "7.5: Save", e)
			return api.Kid{Level: node.Height(w.Key) - 1, Key: w.Key, Count: node.Count(w), Addr: a, Label: node.Label(w)}
		}
		hang := saved(api.Tower{Key: tall("y", 1, i), Value: v})
		second := saved(api.Tower{Key: tall("x", 2, i), Value: v, Kids: []api.Kid{hang}})
		head := api.Tower{Head: true, Kids: []api.Kid{second, saved(api.Tower{Key: tall("b", 1, i), Value: v, Kids: []api.Kid{hang}})}}
		a, e := node.Save(b, head)
		must(t, "7.5: Save", e)
		x := api.Tree{Addr: a, Count: node.Count(head), Label: digest.Of(node.RootText(node.Count(head), node.Label(head)))}
		for range 1500 {
			m := edited(r, map[string]string{string(second.Key): fmt.Sprint(r.Intn(1000)), string(hang.Key): "v"})
			if label(m) != x.Label {
				continue
			}
			c, y := planted(t, m)
			for range 4 {
				s := spanOf(r)
				proof, e := prove.Span(c, y, s)
				must(t, "10.2: Span", e)
				pairs++
				hold(t, b, x, s, proof, met)
			}
		}
	}
	enough(t, pairs, met, "another count")
}
