package compact_test

import (
	"slices"
	"testing"

	"witness/api"
	"witness/compact"
)

// smear writes into a list and its spare room.
func smear[T any](l []T, x T) {
	l = l[:cap(l)]
	for i := range l {
		l[i] = x
	}
}

// TestHandedOut: what is handed out is new memory, spare room included.
func TestHandedOut(t *testing.T) {
	_, c := layout{whole: 1024, segs: halves(5, 100), versions: 1, free: 2}.open(t)
	u, e := compact.Usage(c)
	must(t, "15.1: Usage", e)
	v, e := compact.Victims(c)
	must(t, "15.2: Victims", e)
	usage, victims := slices.Clone(u), slices.Clone(v)
	more, _ := compact.Usage(c)
	others, _ := compact.Victims(c)
	was := viewOf(c)
	smear(u, api.Usage{Seg: 9, Used: 9, Live: 9, Fill: 9})
	smear(v, 99)
	if !slices.Equal(more, usage) || !slices.Equal(others, victims) {
		t.Error("0.4: two answers share memory")
	}
	same(t, "0.4: behind that", viewOf(c), was)
	told(t, "behind that", c)
	hasVictims(t, "behind that", c, victims...)
	runs(t, "behind that", c, len(victims), api.OK)
}

// TestTwoStores: what is done to one store is not seen in another one.
func TestTwoStores(t *testing.T) {
	l := layout{whole: 1024, segs: halves(5, 100), versions: 1, free: 2}
	_, one := l.open(t)
	_, two := l.open(t)
	u, _ := compact.Usage(two)
	was := viewOf(two)
	runs(t, "one", one, 5, api.OK)
	again, e := compact.Usage(two)
	must(t, "15.1: Usage", e)
	holds(t, "0.3: the other store", again, u)
	same(t, "0.3: the other store", viewOf(two), was)
	runs(t, "the other store", two, 5, api.OK)
	same(t, "0.3: both", viewOf(two), viewOf(one))
}
