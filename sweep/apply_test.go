package sweep_test

import (
	"fmt"
	"maps"
	"slices"
	"strings"
	"testing"

	"witness/api"
	"witness/skip"
	"witness/sweep"
)

// maps of which each has another shape.
func shapes() []map[string]string {
	tall := map[string]string{lowest: "low", higher: "high"}
	for level, key := range byLevel {
		tall[key] = fmt.Sprint(level)
	}
	flat := map[string]string{"": "first"}
	for i, key := range keysOf(1, 6, "k") {
		flat[key] = fmt.Sprint(i)
	}
	return []map[string]string{tall, flat, garden(), {}}
}

// TestOneEdit: each key of some maps gone, with another value, with its own; and keys of each height beside them.
func TestOneEdit(t *testing.T) {
	for _, m := range shapes() {
		s := wide(t)
		x := s.built(m)
		for _, key := range slices.Sorted(maps.Keys(m)) {
			y, n := s.applies(x, m, gone(key))
			back, _ := s.applies(y, n, puts(key, m[key]))
			isTree(t, "9.8: gone and put again", back, api.OK, x)
			s.applies(x, m, puts(key, "another value"))
			s.applies(x, m, puts(key, ""))
			s.unchanged("9.1: the value that it has", func() { s.applies(x, m, puts(key, m[key])) })
			s.unchanged("9.1: a key that is not there", func() { s.applies(x, m, gone(key+"\x00")) })
		}
		for height := 1; height <= 6; height++ {
			for _, front := range []string{"", "3", "5000", "k0", "k00000", "q", "\xff"} {
				s.applies(x, m, puts(keysOf(height, 1, front+".")[0], "new"))
			}
		}
	}
}

// TestTwoEdits: each two keys of a map that stand side by side or apart, gone or changed at one time.
func TestTwoEdits(t *testing.T) {
	m := garden()
	s := wide(t)
	x := s.built(m)
	keys := slices.Sorted(maps.Keys(m))
	for i := range keys {
		for j := range i {
			s.applies(x, m, gone(keys[i]), gone(keys[j]))
			s.applies(x, m, puts(keys[i], "x"), gone(keys[j]))
			if t.Failed() {
				return
			}
		}
	}
}

// TestBatches: any edits of any maps.
func TestBatches(t *testing.T) {
	n := &noise{x: 9}
	for round := 0; round < 60 && !t.Failed(); round++ {
		s := wide(t)
		m := n.chance(n.below(40))
		x := s.built(m)
		for range 8 {
			y, k := s.applies(x, m, n.edits(n.below(30))...)
			if n.below(2) == 0 { // else the next batch begins with the older tree
				x, m = y, k
			}
			answers(t, "8.7: Check", skip.Check(s.b, x), api.OK)
		}
	}
}

// TestAllAtOnce: a map is made by one batch out of nothing, and unmade by one.
func TestAllAtOnce(t *testing.T) {
	n := &noise{x: 99}
	for _, m := range shapes() {
		s := wide(t)
		empty, _ := skip.Empty(s.b)
		var in, out []api.Edit
		for key, value := range m {
			in, out = append(in, puts(key, value)), append(out, gone(key))
		}
		x, _ := s.applies(empty, nil, shuffled(n, in)...)
		y, _ := s.applies(x, m, shuffled(n, out)...)
		isTree(t, "9.1: all is gone", y, api.OK, empty)
		s.unchanged("9.1: all is there", func() { s.applies(empty, nil, shuffled(n, in)...) })
		half := in[:len(in)/2]
		s.applies(x, m, slices.Concat(shuffled(n, out), half)...)
	}
}

// TestOrderOfWriting: one batch makes towers on several ways anew.
func TestOrderOfWriting(t *testing.T) {
	s := wide(t)
	m := garden()
	x := s.built(m)
	l := []api.Edit{puts(keysOf(7, 1, "5")[0], "tall"), puts("z", "last"), gone(keysOf(4, 1, "2")[0]), puts("", "first"), puts(keysOf(1, 1, "2")[0], "low")}
	p := planOf(edited(m, l))
	want := s.missing(p)
	written := s.added("9.1: Apply", func() { s.applies(x, m, l...) })
	if len(want) < 10 || !slices.Equal(written, want) {
		t.Errorf("9.1: written is %s, want %s", fronts(written), fronts(want))
	}
	at := func(a api.Addr) int { return slices.Index(written, a) }
	for _, tower := range p.towers {
		own := at(towerAddr(tower))
		for _, k := range tower.Kids {
			if own >= 0 && at(k.Addr) > own {
				t.Errorf("9.1: the tower of %q is written ahead of that of %q, which hangs at it", tower.Key, k.Key)
			}
		}
		if own >= 0 && at(tower.Value) > own {
			t.Errorf("9.1: the tower of %q is written ahead of its value", tower.Key)
		}
	}
	if at(p.tree.Addr) != len(written)-1 {
		t.Errorf("9.1: the head is not written last")
	}
}

func TestKeysNamedTwice(t *testing.T) {
	s := wide(t)
	m := mapOf("a", "1", "c", "3", "e", "5")
	x := s.built(m)
	for _, l := range [][]api.Edit{
		{puts("a", "2"), puts("a", "3")},
		{puts("a", "3"), puts("a", "2")},
		{gone("c"), puts("c", "4")},
		{puts("c", "4"), gone("c")},
		{puts("b", "2"), gone("b"), puts("b", "9"), puts("a", "7"), puts("b", "8")},
		{puts("e", "6"), puts("a", "6"), puts("e", "5"), gone("a"), gone("e")},
	} {
		s.applies(x, m, l...)
	}
	before := s.there()
	s.applies(x, m, puts("b", "overwritten"), puts("b", "2"))
	for a := range s.there() {
		if _, was := before[a]; !was && a == valueAddr("overwritten") {
			t.Errorf("9.1: a value that the map behind the edits does not have is written")
		}
	}
	s.unchanged("9.1: edits that undo one another", func() {
		for _, l := range [][]api.Edit{
			{},
			{gone("c"), puts("c", "3")},
			{puts("a", "2"), gone("b"), puts("a", "1")},
			{puts("b", "2"), puts("a", "1"), gone("b")},
			{gone("b"), gone("d"), gone(""), gone("zz"), puts("e", "5"), puts("c", "3")},
		} {
			y, e := sweep.Apply(s.b, x, l)
			isTree(t, "9.1: Apply of "+toldEdits(l), y, e, x)
		}
	})
}

func TestLimitsOfEdits(t *testing.T) {
	s := wide(t)
	m := mapOf("a", "1", "c", "3")
	x := s.built(m)
	longest, longer := strings.Repeat("k", api.MaxKey), strings.Repeat("k", api.MaxKey+1)
	value, wide := strings.Repeat("v", api.MaxValue), strings.Repeat("w", api.MaxValue+1)
	s.applies(x, m, puts(longest, "v"))
	s.applies(x, m, puts("k", value), gone(longest))
	s.applies(x, m, api.Edit{Key: []byte("a"), Value: []byte(wide), Gone: true})
	wrong := x
	wrong.Count++
	for _, e := range []api.Edit{puts(longer, ""), gone(longer), puts("k", wide), puts("", wide), puts("a", wide)} {
		for _, l := range [][]api.Edit{{e}, {puts("b", "2"), e}, {e, puts("b", "2")}, {e, puts(string(e.Key[:min(len(e.Key), 4)]), "1")}, {e, gone("a"), gone("k"), gone("")}} {
			s.applyFails("an edit beyond its bound", x, api.ErrLimit, l...)
			s.applyFails("an edit beyond its bound, and no tree", wrong, api.ErrLimit, l...)
		}
	}
	s.applyFails("no tree", wrong, api.ErrTree, puts("b", "2"))
	s.off()
	s.applyFails("an edit beyond its bound, without power", x, api.ErrLimit, puts(longer, ""))
	s.applyFails("an edit without power", x, api.ErrPower, puts("b", "2"))
	s.applyFails("no edits without power", x, api.ErrPower)
}

func TestLimitOfABatch(t *testing.T) {
	s := wide(t)
	x, _ := skip.Empty(s.b)
	var l []api.Edit
	m := map[string]string{}
	for i := range api.MaxBatch {
		key := fmt.Sprint("k", i)
		l = append(l, puts(key, key[:2]))
		m[key] = key[:2]
	}
	x, _ = s.applies(x, nil, l...)
	s.applyFails("one edit more", x, api.ErrLimit, append(slices.Clone(l), puts("more", ""))...)
	s.applyFails("one edit more that changes nothing", x, api.ErrLimit, append(slices.Clone(l), l[0])...)
	s.applyFails("one edit more of the same key", x, api.ErrLimit, slices.Repeat(l[:1], api.MaxBatch+1)...)
	s.unchanged("9.1: one key named by all", func() { s.applies(x, m, slices.Repeat(l[:1], api.MaxBatch)...) })
	for i := range l {
		l[i].Gone = i%3 > 0
	}
	s.applies(x, m, l...)
}

// TestNoRoom: at each of the blobs that a batch writes there is no room for it.
func TestNoRoom(t *testing.T) {
	m := garden()
	l := []api.Edit{puts(keysOf(6, 1, "4")[0], "tall"), gone(keysOf(3, 1, "3")[0]), puts("", "other"), puts("zz", "last")}
	p := planOf(edited(m, l))
	s := wide(t)
	x := s.built(m)
	want := s.missing(p)
	s.applies(x, m, l...)
	room := 0
	for i := 0; i <= len(want) && !t.Failed(); i++ {
		length := 1
		if i < len(want) {
			place, _ := s.b.Where(want[i])
			length = place.Len
		}
		tight := narrow(t, 400)
		x := tight.built(m)
		free := tight.b.Log().Size() - 16 - tight.used()
		tight.value(strings.Repeat("f", free-14-(room+length-1)))
		var y api.Tree
		var e api.Errno
		written := tight.added("9.1: Apply", func() { y, e = sweep.Apply(tight.b, x, l) })
		if i == len(want) {
			isTree(t, "9.1: Apply with just enough room", y, e, p.tree)
		} else {
			noTree(t, "9.1: Apply without room", y, e, api.ErrFull)
		}
		if !slices.Equal(written, want[:i]) {
			t.Errorf("9.1: with room for %d blobs %s is written, of %s", i, fronts(written), fronts(want))
		}
		tight.each(x, all, listOf(m), api.OK)
		room += length
	}
}

// TestThePowerGoes at each write of a batch.
func TestThePowerGoes(t *testing.T) {
	m := garden()
	l := []api.Edit{puts(keysOf(6, 1, "4")[0], "tall"), gone(keysOf(3, 1, "3")[0]), puts("", "other"), puts("zz", "last")}
	p := planOf(edited(m, l))
	for fuse := 0; !t.Failed(); fuse++ {
		s := wide(t)
		x := s.built(m)
		want := s.missing(p)
		s.d.Fuse(fuse)
		var y api.Tree
		var e api.Errno
		written := s.added("9.1: Apply", func() { y, e = sweep.Apply(s.b, x, l) })
		if e == api.OK {
			isTree(t, "9.1: Apply", y, e, p.tree)
			if fuse < len(want) {
				t.Errorf("9.1: %d blobs by %d writes", len(want), fuse)
			}
			return
		}
		noTree(t, "9.1: Apply as the power goes", y, e, api.ErrPower)
		if len(written) >= len(want) || !slices.Equal(written, want[:len(written)]) {
			t.Errorf("9.1: as the power goes %s is written, of %s", fronts(written), fronts(want))
		}
		s.on()
		s.each(x, all, listOf(m), api.OK)
		s.applies(x, m, l...)
	}
}

// TestWithinAChange: none is begun or ended by any call.
func TestWithinAChange(t *testing.T) {
	s := wide(t)
	m := garden()
	x := s.built(m)
	calls := func() {
		s.unchanged("9.7: what reads", func() {
			s.each(x, all, listOf(m), api.OK)
			s.ranges(x, all, 2, listOf(m)[:2], true, api.OK)
			s.rank(x, "", 0, api.OK)
			s.at(x, 0, listOf(m)[0], api.OK)
			s.counts(x, all, len(m), api.OK)
			y := s.planted(nil)
			s.diff("within a change", x, y, between(m, nil), api.OK)
			gives(t, "9.6: Mix", sweep.Mix(sweep.Each(s.b, x, all), []api.Edit{gone("")}, all), listOf(m)[1:], api.OK)
		})
	}
	calls()
	s.applies(x, m, puts("b", "2"))
	answers(t, "9.7: End, and none has begun", s.b.End(), api.ErrOpen)
	answers(t, "6.8: Begin", s.b.Begin(), api.OK)
	before := s.there()
	calls()
	s.applies(x, m, puts("c", "3"), gone(""))
	answers(t, "9.7: Begin, and one goes on", s.b.Begin(), api.ErrOpen)
	answers(t, "9.7: Undo", s.b.Undo(), api.OK)
	if !maps.Equal(s.there(), before) {
		t.Errorf("9.7: Undo does not undo what Apply wrote")
	}
	s.each(x, all, listOf(m), api.OK)
}

// TestNoBlobs: nothing is there, and nothing falls over.
func TestNoBlobs(t *testing.T) {
	s := store{t: t}
	x := planOf(mapOf("a", "1")).tree
	y, e := sweep.Apply(s.b, x, nil)
	noTree(t, "9.1: Apply without blobs", y, e, api.ErrTree)
	s.spanFails(x, all, api.ErrTree)
	s.rank(x, "", 0, api.ErrTree)
	s.at(x, 0, api.Entry{}, api.ErrTree)
	s.diff("no blobs", x, x, nil, api.ErrTree)
	s.spanFails(x, span("b", "a"), api.ErrBounds)
}
