package sweep_test

import (
	"fmt"
	"maps"
	"slices"
	"testing"

	"witness/api"
	"witness/skip"
	"witness/sweep"
)

// ruin is a tree of which one blob cannot be had.
type ruin struct {
	store
	x    api.Tree
	m    map[string]string
	p    *plan
	lost api.Addr
}

// forget lets a blob be there no more.
func (s store) forget(a api.Addr) {
	s.t.Helper()
	var l []api.Addr
	for other := range s.b.Each() {
		if other != a {
			l = append(l, other)
		}
	}
	if n := s.b.Keep(l); n != 1 {
		s.t.Fatalf("6.7: Keep forgets %d", n)
	}
}

// lose damages a blob, or forgets it.
func (s store) lose(a api.Addr, i int) {
	s.t.Helper()
	if i%2 == 0 {
		s.turn(a)
	} else {
		s.forget(a)
	}
}

func distinct(l []api.Addr) []api.Addr {
	l = slices.Clone(l)
	slices.SortFunc(l, func(a, b api.Addr) int { return slices.Compare(a.Sum[:], b.Sum[:]) })
	return slices.Compact(l)
}

// ruins hands on a tree, again and again, with each of its blobs damaged or forgotten.
func ruins(t *testing.T, m map[string]string, hold func(r ruin)) {
	t.Helper()
	p := planOf(m)
	for i, a := range distinct(p.order) {
		s := wide(t)
		r := ruin{s, s.planted(m), m, p, a}
		s.lose(a, i)
		hold(r)
		if t.Failed() {
			t.Fatalf("the blob %s is lost", front(a.Sum))
		}
	}
}

// tower tells whether a key's tower can be had.
func (r ruin) tower(key string) bool { return towerAddr(r.p.towers[key]) != r.lost }

// value tells whether a key's value can be had.
func (r ruin) value(key string) bool { return r.p.towers[key].Value != r.lost }

// way tells whether the towers on a key's way can be had, the head among them.
func (r ruin) way(key string) bool {
	return !slices.ContainsFunc(r.p.path(key), func(t api.Tower) bool { return towerAddr(t) == r.lost })
}

func (r ruin) holdSpan(in api.Span) {
	r.t.Helper()
	var l []api.Entry
	keys, count, end := 0, api.OK, api.OK
	if !r.way(string(in.Lo)) {
		r.spanFails(r.x, in, api.ErrTree)
		return
	}
	for _, e := range entriesIn(r.m, in) {
		keys++
		tower, value := r.tower(string(e.Key)), r.value(string(e.Key))
		if !tower {
			count = api.ErrTree
		}
		if end == api.OK && len(l) > 0 { // that there are more is seen at the next tower, whose value is not needed
			if tower {
				r.ranges(r.x, in, len(l), l, true, api.OK)
			} else {
				r.ranges(r.x, in, len(l), nil, false, api.ErrTree)
			}
		}
		switch {
		case !tower || !value:
			end = api.ErrTree
		case end == api.OK:
			l = append(l, e)
		}
		if end != api.OK {
			r.ranges(r.x, in, len(l)+1, nil, false, api.ErrTree)
		}
	}
	r.each(r.x, in, l, end)
	if count != api.OK {
		keys = 0
	}
	r.counts(r.x, in, keys, count)
}

func (r ruin) holdPlaces(keys []string) {
	r.t.Helper()
	for i, e := range listOf(r.m) {
		if r.way(string(e.Key)) && r.value(string(e.Key)) {
			r.at(r.x, uint64(i), e, api.OK)
		} else {
			r.at(r.x, uint64(i), api.Entry{}, api.ErrTree)
		}
	}
	none := api.ErrRank
	if r.lost == r.x.Addr {
		none = api.ErrTree
	}
	r.at(r.x, uint64(len(r.m)), api.Entry{}, none)
	for _, key := range keys {
		if r.way(key) {
			r.rank(r.x, key, len(r.m)-len(entriesIn(r.m, from(key))), api.OK)
		} else {
			r.rank(r.x, key, 0, api.ErrTree)
		}
	}
}

// TestReadsOfRuins: what was told ahead of a blob that cannot be had is right, and what is not needed is not asked for.
func TestReadsOfRuins(t *testing.T) {
	n := &noise{x: 5}
	for _, m := range []map[string]string{garden(), n.chance(12)} {
		l := bounds(slices.Sorted(maps.Keys(m)))
		ruins(t, m, func(r ruin) {
			r.t.Helper()
			r.unchanged("9.7: what reads", func() {
				r.t.Helper()
				r.holdPlaces(l)
				for range 15 {
					lo, hi := l[n.below(len(l))], l[n.below(len(l))]
					r.holdSpan(from(lo))
					if lo < hi {
						r.holdSpan(span(lo, hi))
					}
				}
			})
		})
	}
}

// needs is the keys whose towers a batch needs: those on the ways of its keys, and those that are other towers behind it.
func (r ruin) needs(l []api.Edit) map[string]bool {
	needs := map[string]bool{}
	for _, e := range l {
		for _, tower := range r.p.path(string(e.Key))[1:] {
			needs[string(tower.Key)] = true
		}
	}
	q := planOf(edited(r.m, l))
	for key, tower := range r.p.towers {
		if other, stays := q.towers[key]; stays && towerAddr(other) != towerAddr(tower) {
			needs[key] = true
		}
	}
	return needs
}

func (r ruin) holdApply(l []api.Edit) {
	r.t.Helper()
	needed := r.lost == r.x.Addr
	for key := range r.needs(l) {
		needed = needed || !r.tower(key)
	}
	if needed {
		r.applyFails("a tower that cannot be had: "+toldEdits(l), r.x, api.ErrTree, l...)
		return
	}
	for _, e := range l {
		if valueAddr(string(e.Value)) == r.lost {
			return // what is damaged is there and cannot be put, and what is not there is put again
		}
	}
	p := planOf(edited(r.m, l))
	want := slices.DeleteFunc(r.missing(p), func(a api.Addr) bool { return a == r.lost }) // what hangs at a tower that is there is not looked at
	written := r.added("9.1: Apply", func() {
		y, e := sweep.Apply(r.b, r.x, l)
		isTree(r.t, "9.1: Apply to a tree of which a blob is lost: "+toldEdits(l), y, e, p.tree)
	})
	if !slices.Equal(written, want) {
		r.t.Errorf("9.1: Apply of %s: written are %s, want %s", toldEdits(l), fronts(written), fronts(want))
	}
}

// TestBatchesOnRuins: nothing is written ahead of the last read, and what is not needed is not asked for.
func TestBatchesOnRuins(t *testing.T) {
	n := &noise{x: 55}
	for _, m := range []map[string]string{garden(), n.chance(12)} {
		keys := slices.Sorted(maps.Keys(m))
		ruins(t, m, func(r ruin) {
			r.t.Helper()
			r.holdApply(nil)
			for range 6 {
				var l []api.Edit
				for range 1 + n.below(3) {
					switch key := keys[n.below(len(keys))]; n.below(4) {
					case 0:
						l = append(l, puts(key, "new"))
					case 1:
						l = append(l, puts(key+"x", "new"))
					default:
						l = append(l, gone(key))
					}
				}
				r.holdApply(l)
			}
		})
	}
}

// TestTheValueAgain: a value that cannot be had is put.
func TestTheValueAgain(t *testing.T) {
	m := mapOf("a", "1", "c", "3", "e", "5")
	s := wide(t)
	x := s.built(m)
	s.forget(valueAddr("3"))
	y, e := sweep.Apply(s.b, x, []api.Edit{puts("c", "3")})
	isTree(t, "9.1: the value that is not there", y, e, x)
	s.each(x, all, listOf(m), api.OK)
	s.turn(valueAddr("3"))
	s.applyFails("a damaged value", x, api.ErrCheck, puts("c", "3"))
	s.applies(x, m, puts("c", "4"))
	s.applies(x, m, gone("c"))
}

// TestDiffOfRuins: what is told ahead of a blob that cannot be had is right, and what both trees share is not asked for.
func TestDiffOfRuins(t *testing.T) {
	n := &noise{x: 555}
	for round := 0; round < 8 && !t.Failed(); round++ {
		m := n.chance(14)
		other := edited(m, n.edits(1+n.below(4)))
		p, q := planOf(m), planOf(other)
		for i, a := range distinct(append(p.order, q.order...)) {
			s := wide(t)
			x, y := s.planted(m), s.planted(other)
			s.lose(a, i)
			want, end := changesAhead(p, q, between(m, other), a)
			s.diff("a lost blob", x, y, want, end)
			want, end = changesAhead(q, p, between(other, m), a)
			s.diff("a lost blob, the other way", y, x, want, end)
		}
	}
}

// changesAhead is what can be told of changes if a blob is lost.
func changesAhead(p, q *plan, l []api.Change, lost api.Addr) ([]api.Change, api.Errno) {
	if lost == p.tree.Addr || lost == q.tree.Addr {
		return nil, api.ErrTree
	}
	end := api.OK
	until := func(key string) {
		l = slices.DeleteFunc(slices.Clone(l), func(c api.Change) bool { return string(c.Key) >= key })
		end = api.ErrTree
	}
	for _, c := range l {
		if c.Had && valueAddr(string(c.Old)) == lost || c.Has && valueAddr(string(c.New)) == lost {
			until(string(c.Key))
			break
		}
	}
	for _, one := range []*plan{p, q} {
		for key, tower := range one.towers {
			if towerAddr(tower) == lost && !(slices.Contains(p.order, lost) && slices.Contains(q.order, lost)) {
				until(key)
			}
		}
	}
	return l, end
}

// TestThePowerGoesAmidALoop: what comes next is refused.
func TestThePowerGoesAmidALoop(t *testing.T) {
	m := mapOf("a", "1", "b", "2", "c", "3", "d", "4", "e", "5")
	for given := range len(m) {
		s := wide(t)
		x := s.built(m)
		y := s.planted(nil)
		n := 0
		for entry, e := range sweep.Each(s.b, x, all) {
			if want := listOf(m)[min(n, len(m)-1)]; n <= given && (e != api.OK || !sameEntry(entry, want)) {
				t.Errorf("9.2: %v, %d, want %v", entry, e, want)
			}
			if n > given {
				answers(t, "9.2: behind the power's end", e, api.ErrPower)
			}
			if n == given {
				s.off()
			}
			n++
		}
		if n != min(given+2, len(m)) {
			t.Errorf("9.2: %d things are given, and the power went behind %d", n, given+1)
		}
		s.on()
		n = 0
		for change, e := range sweep.Diff(s.b, y, x) {
			if n <= given && (e != api.OK || !sameChange(change, between(nil, m)[n])) {
				t.Errorf("9.5: %v, %d", change, e)
			}
			if n > given {
				answers(t, "9.5: behind the power's end", e, api.ErrPower)
			}
			if n == given {
				s.off()
			}
			n++
		}
		if n != min(given+2, len(m)) {
			t.Errorf("9.5: %d things are given, and the power went behind %d", n, given+1)
		}
	}
}

// thicket is towers that hang together in more ways than can be gone.
func (s store) thicket(rows int) api.Tree {
	s.t.Helper()
	var last []api.Kid
	for row := rows; row > 0; row-- {
		var kids []api.Kid
		for level := range 9 {
			var below []api.Kid
			if last != nil {
				below = slices.Clone(last[:level+1])
				slices.Reverse(below)
			}
			kids = append(kids, s.tower(keysOf(level+1, 1, fmt.Sprintf("%02d%d", row, level))[0], below...))
		}
		last = kids
	}
	slices.Reverse(last)
	return s.tree(last...)
}

// ends ranges over everything; the answers are free.
func (s store) ends(x, y api.Tree, keys []string) {
	s.t.Helper()
	for _, in := range []api.Span{all, from("1"), span("0", "2"), from("b"), span("c", "z")} {
		n := 0
		for range sweep.Each(s.b, x, in) {
			n++
		}
		if n > 100000 {
			s.t.Errorf("9.2: Each gives %d things of a store with less", n)
		}
		sweep.Range(s.b, x, in, 5)
		sweep.Range(s.b, x, in, api.MaxAnswer)
		sweep.Count(s.b, x, in)
	}
	for _, key := range keys {
		sweep.Rank(s.b, x, []byte(key))
	}
	for i := uint64(1); i != 0 && i < x.Count; i *= 3 {
		sweep.At(s.b, x, i)
		sweep.At(s.b, x, x.Count-i)
	}
	for range sweep.Diff(s.b, x, y) {
	}
	for range sweep.Diff(s.b, y, x) {
	}
	var l []api.Edit
	for i, key := range keys {
		l = append(l, api.Edit{Key: []byte(key), Gone: i%2 == 0})
		sweep.Apply(s.b, x, l[i:])
	}
	sweep.Apply(s.b, x, l)
}

// TestCallsEnd: of trees that were made by hand the answers are free, but there is one.
func TestCallsEnd(t *testing.T) {
	s := wide(t)
	x := s.thicket(30)
	if x.Count < 1<<26 {
		t.Fatalf("the tree has only %d keys", x.Count)
	}
	path, _ := skip.Path(s.b, x, []byte("15"))
	keys := []string{"", "0", "01", "15", "9", "zz"}
	for _, tower := range path[1:] {
		keys = append(keys, string(tower.Key), string(tower.Key)+"x")
	}
	s.ends(x, s.thicket(29), keys)
}

// TestTreesByHand: towers of which any hang at any.
func TestTreesByHand(t *testing.T) {
	keys := slices.Concat(keysOf(1, 4, "a"), keysOf(2, 3, "a"), keysOf(3, 2, "b"), keysOf(1, 3, "c"), keysOf(4, 2, "c"))
	slices.Sort(keys)
	n := &noise{x: 8}
	whole := 0
	for round := 0; round < 60 && !t.Failed(); round++ {
		s := wide(t)
		var kids []api.Kid
		for _, key := range slices.Backward(keys) {
			kids = append(kids, s.tower(key, n.kids(kids, key, heightOf(key))...))
		}
		x, y := s.tree(n.kids(kids, "", 24)...), s.tree(n.kids(kids, "", 24)...)
		if skip.Check(s.b, x) == api.OK {
			whole++
			m := map[string]string{}
			for entry := range sweep.Each(s.b, x, all) {
				m[string(entry.Key)] = string(entry.Value)
			}
			isTree(t, "9.2: all entries of a whole tree", x, api.OK, planOf(m).tree)
		}
		s.ends(x, y, append(slices.Clone(keys), "", "b", "zz"))
	}
	if whole == 0 || whole == 60 {
		t.Errorf("8.7: %d of 60 trees are whole", whole)
	}
}

// kids are some of those that are there, such as a tower can have; what hangs at them may lie anywhere.
func (n *noise) kids(kids []api.Kid, key string, height int) []api.Kid {
	var l []api.Kid
	level, bound := height-1, "\xff"
	for range 6 {
		if len(kids) == 0 {
			break
		}
		k := kids[n.below(len(kids))]
		if k.Level <= level && string(k.Key) < bound && string(k.Key) > key {
			l = append(l, k)
			level, bound = k.Level-1, string(k.Key)
		}
	}
	return l
}

// TestTooManyToCount: towers that fit, of which no valid ones can be made.
func TestTooManyToCount(t *testing.T) {
	s := wide(t)
	many := s.tower("c")
	many.Count = 1<<62 - 1
	x := s.tree(many, s.tower("a"))
	if _, e := sweep.Apply(s.b, x, []api.Edit{puts("b", "2")}); e != api.ErrTree {
		t.Errorf("9.1: one key more than can be counted: %d", e)
	}
	if _, e := sweep.At(s.b, x, 1<<61); e != api.ErrTree {
		t.Errorf("9.4: At a tower that has another count: %d", e)
	}
	s.at(x, 0, list("a", "a")[0], api.OK)
	s.rank(x, "b", 1, api.OK)
	s.rank(x, "d", 0, api.ErrTree)
	s.counts(x, span("a", "c"), 1, api.OK)
	s.counts(x, all, 0, api.ErrTree)
}
