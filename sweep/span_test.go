package sweep_test

import (
	"fmt"
	"maps"
	"math"
	"slices"
	"strings"
	"testing"

	"witness/api"
	"witness/sweep"
)

// reads holds all that reads a span against the map.
func (s store) reads(x api.Tree, m map[string]string, in api.Span) {
	s.t.Helper()
	want := entriesIn(m, in)
	s.each(x, in, want, api.OK)
	s.counts(x, in, len(want), api.OK)
	for _, most := range []int{1, 2, len(want) - 1, len(want), len(want) + 1, api.MaxAnswer} {
		if most >= 1 {
			s.ranges(x, in, most, want[:min(most, len(want))], most < len(want), api.OK)
		}
	}
}

// ranksAndPlaces holds Rank and At against the map.
func (s store) ranksAndPlaces(x api.Tree, m map[string]string, keys []string) {
	s.t.Helper()
	l := listOf(m)
	for i, entry := range l {
		s.at(x, uint64(i), entry, api.OK)
	}
	for _, i := range []uint64{uint64(len(l)), uint64(len(l)) + 1, 1 << 62, math.MaxUint64} {
		s.at(x, i, api.Entry{}, api.ErrRank)
	}
	for _, key := range keys {
		s.rank(x, key, len(l)-len(entriesIn(m, from(key))), api.OK)
	}
}

// TestSpans: each two bounds at, ahead of, between and behind the keys of some maps.
func TestSpans(t *testing.T) {
	n := &noise{x: 3}
	for _, m := range append(shapes(), n.chance(6), n.chance(30)) {
		s := wide(t)
		x := s.built(m)
		l := bounds(slices.Sorted(maps.Keys(m)))
		if len(l) > 30 {
			l = slices.Concat(l[:14], l[len(l)-16:])
		}
		s.unchanged("9.7: what reads", func() {
			s.ranksAndPlaces(x, m, l)
			for i, lo := range l {
				s.reads(x, m, from(lo))
				s.reads(x, m, api.Span{Lo: []byte(lo), Hi: []byte(l[0]), Open: true})
				for _, hi := range l[i+1:] {
					s.reads(x, m, span(lo, hi))
				}
				for _, hi := range l[:i+1] {
					s.spanFails(x, span(lo, hi), api.ErrBounds)
				}
			}
		})
		if t.Failed() {
			return
		}
	}
}

// TestLongBounds: of as many bytes as a key may have, one more, two more.
func TestLongBounds(t *testing.T) {
	s := wide(t)
	long := strings.Repeat("k", api.MaxKey)
	near := strings.Repeat("k", api.MaxKey-1) + "j"
	short := strings.Repeat("k", api.MaxKey-1)
	m := map[string]string{"": "0", "a": "1", short: "2", near: "3", long: "4", "z": "5"}
	x := s.built(m)
	fit := []string{"", short, near, near + "\x00", near + "\xff", long, long + "\x00", long + "k", long + "\xff", strings.Repeat("\xff", api.MaxKey+1)}
	s.ranksAndPlaces(x, m, fit)
	for _, lo := range fit {
		s.reads(x, m, from(lo))
		for _, hi := range fit {
			if lo < hi {
				s.reads(x, m, span(lo, hi))
			} else {
				s.spanFails(x, span(lo, hi), api.ErrBounds)
			}
		}
	}
	wrong := x
	wrong.Label[5]++
	for _, y := range []api.Tree{x, wrong, {}} {
		for _, over := range []string{long + "\x00\x00", long + "kk", strings.Repeat("x", 5000)} {
			for _, in := range []api.Span{from(over), span(over, "z"), span("", over), span(over, over), span("zz", over), span(over, long)} {
				s.spanFails(y, in, api.ErrLimit)
			}
			s.rank(y, over, 0, api.ErrLimit)
		}
	}
	s.reads(x, m, api.Span{Lo: []byte("b"), Hi: []byte(long + "kk"), Open: true}) // an open span's Hi is not looked at
	s.off()
	s.spanFails(x, span("", long+"kk"), api.ErrLimit)
	s.rank(x, long+"kk", 0, api.ErrLimit)
}

func TestMost(t *testing.T) {
	s := wide(t)
	m := mapOf("a", "1", "c", "3")
	x := s.built(m)
	wrong := x
	wrong.Addr.Nth++
	for _, most := range []int{0, -1, math.MinInt, api.MaxAnswer + 1, math.MaxInt} {
		s.ranges(x, all, most, nil, false, api.ErrMost)
		s.ranges(wrong, all, most, nil, false, api.ErrMost)
		s.ranges(x, span("b", "a"), most, nil, false, api.ErrBounds)
		s.ranges(x, from(strings.Repeat("x", api.MaxKey+2)), most, nil, false, api.ErrLimit)
	}
	s.ranges(wrong, all, 1, nil, false, api.ErrTree)
	s.off()
	s.ranges(x, all, 0, nil, false, api.ErrMost)
	s.ranges(x, all, 1, nil, false, api.ErrPower)
}

// TestMany: more keys than one answer can have.
func TestMany(t *testing.T) {
	s := wide(t)
	m := map[string]string{}
	for i := range api.MaxAnswer + 1 {
		m[fmt.Sprintf("k%05d", i)] = fmt.Sprint(i % 10)
	}
	x := s.planted(m)
	isTree(t, "9.1: many keys", x, api.OK, planOf(m).tree)
	l := listOf(m)
	s.ranges(x, all, api.MaxAnswer, l[:api.MaxAnswer], true, api.OK)
	s.ranges(x, from("k00001"), api.MaxAnswer, l[1:], false, api.OK)
	s.ranges(x, span("", "k04096"), api.MaxAnswer, l[:api.MaxAnswer], false, api.OK)
	s.ranges(x, all, 1, l[:1], true, api.OK)
	s.counts(x, all, len(l), api.OK)
	s.each(x, all, l, api.OK)
	for i := 0; i < len(l); i += 97 {
		s.at(x, uint64(i), l[i], api.OK)
		s.rank(x, string(l[i].Key), i, api.OK)
		s.rank(x, string(l[i].Key)+"\x00", i+1, api.OK)
	}
}

// TestWrongTrees: what is said of a tree is not what lies there.
func TestWrongTrees(t *testing.T) {
	s := wide(t)
	m := mapOf("a", "1", "c", "3", "e", "5")
	x := s.built(m)
	s.treeFails("the zero tree", api.Tree{}, api.ErrTree)
	for what, change := range map[string]func(y *api.Tree){
		"another count":   func(y *api.Tree) { y.Count++ },
		"no keys":         func(y *api.Tree) { y.Count = 0 },
		"another label":   func(y *api.Tree) { y.Label[31] ^= 1 },
		"another twin":    func(y *api.Tree) { y.Addr.Nth++ },
		"another address": func(y *api.Tree) { y.Addr.Sum[0] ^= 1 },
		"a value":         func(y *api.Tree) { y.Addr = valueAddr("1") },
		"no head":         func(y *api.Tree) { y.Addr = towerAddr(planOf(m).towers["a"]) },
	} {
		y := x
		change(&y)
		s.treeFails(what, y, api.ErrTree)
		s.diff(what, x, y, nil, api.ErrTree)
		s.diff(what, y, x, nil, api.ErrTree)
	}
	s.turn(x.Addr)
	s.treeFails("a damaged head", x, api.ErrTree)
	s.off()
	s.treeFails("no power", x, api.ErrPower)
}

// TestTwoTrees: the same questions of two trees over one store.
func TestTwoTrees(t *testing.T) {
	s := wide(t)
	m := garden()
	x := s.built(m)
	y, n := s.applies(x, m, gone(""), puts("zz", "1"), puts("0", "2"))
	for range 2 {
		s.reads(x, m, all)
		s.reads(y, n, all)
		s.ranksAndPlaces(x, m, slices.Sorted(maps.Keys(n)))
		s.ranksAndPlaces(y, n, slices.Sorted(maps.Keys(m)))
	}
	reopened := s.reopened()
	reopened.reads(y, n, all)
	other := wide(t)
	other.treeFails("another store", x, api.ErrTree)
}

// TestAtTheSameTime: what reads may come from several goroutines.
func TestAtTheSameTime(t *testing.T) {
	s := wide(t)
	m := garden()
	x := s.built(m)
	y, n := s.applies(x, m, gone(""), puts("zz", "1"))
	done := make(chan bool)
	for range 4 {
		go func() {
			defer func() { done <- true }()
			s.each(x, all, listOf(m), api.OK)
			s.ranges(y, all, 3, listOf(n)[:3], true, api.OK)
			s.counts(x, all, len(m), api.OK)
			s.rank(x, "zz", len(m), api.OK)
			s.at(y, 0, listOf(n)[0], api.OK)
			s.diff("at the same time", x, y, between(m, n), api.OK)
			gives(t, "9.6: Mix", sweep.Mix(sweep.Each(s.b, x, all), []api.Edit{gone(""), puts("zz", "1")}, all), listOf(n), api.OK)
		}()
	}
	for range 4 {
		<-done
	}
}
