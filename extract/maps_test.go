package extract_test

import (
	"bytes"
	"fmt"
	"maps"
	"slices"
	"strings"
	"testing"

	"witness/api"
	"witness/extract"
)

// apart holds Maps against an error, of a pair of lists: there are no twins then.
func apart(t *testing.T, what string, a, b []api.Entry, want api.Errno) {
	t.Helper()
	if w, e := extract.Maps(a, b); w.One != nil || w.Two != nil || e != want {
		t.Errorf("12.5: %s: %.20x, %.20x, %d, want none, %d", what, w.One, w.Two, e, want)
	}
}

func entry(key, value string) api.Entry { return api.Entry{Key: []byte(key), Value: []byte(value)} }

// TestListsThatAreNoMaps: the first list's error goes ahead of the second one's, and both ahead of all else.
func TestListsThatAreNoMaps(t *testing.T) {
	long := func(n int) string { return strings.Repeat("k", n) }
	falls := []api.Entry{entry("b", ""), entry("a", "")}
	twice := []api.Entry{entry("a", ""), entry("a", "")}
	longKey := []api.Entry{entry(long(api.MaxKey+1), "")}
	longValue := []api.Entry{entry("a", long(api.MaxValue+1))}
	good := listOf(three())
	for i, c := range []struct {
		a, b []api.Entry
		want api.Errno
	}{
		{falls, good, api.ErrOrder}, {good, falls, api.ErrOrder}, {twice, good, api.ErrOrder}, {good, twice, api.ErrOrder},
		{longKey, good, api.ErrLimit}, {good, longKey, api.ErrLimit}, {longValue, good, api.ErrLimit}, {good, longValue, api.ErrLimit},
		{falls, longKey, api.ErrOrder}, {longKey, falls, api.ErrLimit}, {twice, longValue, api.ErrOrder}, {longValue, twice, api.ErrLimit},
		{falls, falls, api.ErrOrder}, {longKey, longKey, api.ErrLimit}, {longValue, longValue, api.ErrLimit}, {twice, twice, api.ErrOrder},
		{nil, falls, api.ErrOrder}, {falls, nil, api.ErrOrder}, {nil, longKey, api.ErrLimit}, {longKey, nil, api.ErrLimit},
		{slices.Concat(falls, longKey), nil, api.ErrOrder}, {slices.Concat(longKey, falls), nil, api.ErrLimit},
		{slices.Concat(good, good[:1]), good, api.ErrOrder}, {[]api.Entry{entry("\x80", ""), entry("\x7f", "")}, nil, api.ErrOrder},
		{[]api.Entry{entry(long(api.MaxKey), long(api.MaxValue))}, []api.Entry{entry(long(api.MaxKey), long(api.MaxValue))}, api.ErrHonest},
		{[]api.Entry{entry(long(api.MaxKey), long(api.MaxValue))}, []api.Entry{entry(long(api.MaxKey), long(api.MaxValue-1))}, api.ErrLabel},
	} {
		apart(t, fmt.Sprint("lists that are no maps, row ", i), c.a, c.b, c.want)
	}
}

// cloned is the same list in other memory.
func cloned(l []api.Entry) []api.Entry {
	l = slices.Clone(l)
	for i, e := range l {
		l[i] = api.Entry{Key: bytes.Clone(e.Key), Value: bytes.Clone(e.Value)}
	}
	return l
}

// TestTheSameMap: there is nothing to extract, whether empty bytes are nil or not.
func TestTheSameMap(t *testing.T) {
	n := &noise{x: 60}
	for what, m := range kindsOfMaps(n) {
		l := listOf(m)
		apart(t, what+", with itself", l, l, api.ErrHonest)
		apart(t, what+", with its copy", l, cloned(l), api.ErrHonest)
	}
	empty, none := []api.Entry{{Key: []byte{}, Value: []byte{}}, entry("a", "")}, []api.Entry{{}, {Key: []byte("a")}}
	for _, a := range [][]api.Entry{empty, none} {
		for _, b := range [][]api.Entry{empty, none} {
			apart(t, "nil and empty bytes", a, b, api.ErrHonest)
		}
	}
	for _, a := range [][]api.Entry{nil, {}} {
		for _, b := range [][]api.Entry{nil, {}} {
			apart(t, "nil and empty lists", a, b, api.ErrHonest)
		}
	}
}

// edited is a map that is unlike in one thing.
func edited(n *noise, m map[string]string) map[string]string {
	m = maps.Clone(m)
	keys := sortedKeys(m)
	if len(keys) == 0 || n.below(3) == 0 {
		m[n.key()+"new"] = "new"
		return m
	}
	key := keys[n.below(len(keys))]
	if n.below(2) == 0 {
		delete(m, key)
		return m
	}
	m[key] += "x"
	return m
}

// TestUnlikeMaps have unlike labels.
func TestUnlikeMaps(t *testing.T) {
	n := &noise{x: 61}
	for what, m := range kindsOfMaps(n) {
		if what == "great values" {
			continue // an edit may make them too great
		}
		for range 12 {
			other := edited(n, m)
			apart(t, what, listOf(m), listOf(other), api.ErrLabel)
			apart(t, what, listOf(other), listOf(m), api.ErrLabel)
		}
	}
	long := listOf(chain(20))
	for i := range long {
		apart(t, "a list and its front", long, long[:i], api.ErrLabel)
		apart(t, "a list and its end", long[i+1:], long, api.ErrLabel)
	}
	apart(t, "keys and values that are alike when they are joined", []api.Entry{entry("a", "bc")}, []api.Entry{entry("ab", "c")}, api.ErrLabel)
	apart(t, "the empty key", []api.Entry{{}}, nil, api.ErrLabel)
	apart(t, "one value of two keys", []api.Entry{entry("a", "1")}, []api.Entry{entry("b", "1")}, api.ErrLabel)
	apart(t, "two values that change places", []api.Entry{entry("a", "1"), entry("b", "2")}, []api.Entry{entry("a", "2"), entry("b", "1")}, api.ErrLabel)
}

// TestTextsOfMaps: they are those of the walk of all keys, without any store.
func TestTextsOfMaps(t *testing.T) {
	n := &noise{x: 62}
	l := kindsOfMaps(n)
	for i := range 40 {
		l[fmt.Sprint("chance ", i)] = n.chance(n.below(40))
	}
	for what, m := range l {
		if got, want := extract.MapTexts(listOf(m)), planOf(m).walk(all).texts; !sameTexts(got, want) {
			t.Errorf("12.5: %s: %s, want %s", what, told(got), told(want))
		}
	}
}

// TestWhereMapsPart: at the first place that is unlike, One is the first map's.
func TestWhereMapsPart(t *testing.T) {
	n := &noise{x: 63}
	for what, m := range kindsOfMaps(n) {
		for range 6 {
			other := edited(n, m)
			want, unlike := firstUnlike(planOf(m).walk(all).texts, planOf(other).walk(all).texts)
			if !unlike {
				t.Fatalf("%s: the texts of unlike maps are the same", what)
			}
			if got := extract.MapsApart(listOf(m), listOf(other)); !sameTwins(got, want) {
				t.Errorf("12.5: %s: %.20x, %.20x, want %.20x, %.20x", what, got.One, got.Two, want.One, want.Two)
			}
		}
	}
}

func sameTwins(a, b api.Twins) bool { return bytes.Equal(a.One, b.One) && bytes.Equal(a.Two, b.Two) }
