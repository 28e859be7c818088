package heaps_test

import (
	"iter"
	"math"
	"math/bits"
	"slices"
	"strings"
	"testing"

	"witness/heaps"
)

func byLength(a, b string) int { return len(a) - len(b) }

func words(s string) []string { return strings.Fields(s) }

// thing is told by its rank alone; its number tells it from its equals.
type thing struct{ rank, number int }

func byRank(a, b thing) int { return a.rank - b.rank }

// noise gives numbers below a bound, the same ones for the same seed.
type noise uint64

func (n *noise) below(bound int) int {
	*n = *n*6364136223846793005 + 1442695040888963407
	hi, _ := bits.Mul64(uint64(*n)*0x9e3779b97f4a7c15, uint64(bound))
	return int(hi)
}

// things are so many, with ranks of which each comes about three times.
func (n *noise) things(count int) []thing {
	l := make([]thing, count)
	for i := range l {
		l[i] = thing{n.below(count/3 + 1), i}
	}
	return l
}

// orders are compares that are orders of things by their ranks.
var orders = map[string]func(a, b thing) int{
	"the difference": byRank,
	"the other way":  func(a, b thing) int { return b.rank - a.rank },
	"the farthest": func(a, b thing) int { // answers that have no opposite
		switch {
		case a.rank < b.rank:
			return math.MinInt
		case a.rank > b.rank:
			return math.MaxInt
		}
		return 0
	},
	"always 0": func(a, b thing) int { return 0 },
	"nil":      nil,
}

// disorders are compares that are no order.
var disorders = map[string]func(a, b thing) int{
	"always below 0": func(a, b thing) int { return -1 },
	"always above 0": func(a, b thing) int { return 1 },
	"in a ring":      func(a, b thing) int { return (a.rank-b.rank+300000)%3 - 1 },
	"not below 0":    func(a, b thing) int { return max(0, a.rank-b.rank) },
	"noise": func(a, b thing) int {
		n := noise(a.rank*7919 + a.number*31 + b.rank*104729 + b.number)
		return n.below(3) - 1
	},
	"numbers that are none": func(a, b thing) int { // as floats with NaN among them
		if a.rank%3 == 0 || b.rank%3 == 0 {
			return 1
		}
		return a.rank - b.rank
	},
}

// counted is a compare that counts its calls.
func counted[T any](compare func(a, b T) int, calls *int) func(a, b T) int {
	return func(a, b T) int {
		*calls++
		if compare == nil {
			return 0
		}
		return compare(a, b)
	}
}

// eachCompare hands on all compares that count, the orders and those that are none.
func eachCompare(calls *int, do func(name string, compare func(a, b thing) int)) {
	for _, all := range []map[string]func(a, b thing) int{orders, disorders} {
		for name, compare := range all {
			do(name, counted(compare, calls))
		}
	}
}

func digits(n int) int { return bits.Len(uint(n)) }

// sorted is the things in order by the library's own sorting.
func sorted(l []thing, compare func(a, b thing) int) []thing {
	l = slices.Clone(l)
	if compare != nil {
		slices.SortStableFunc(l, compare)
	}
	return l
}

// once tells whether two lists have the same things, each as often, in whatever order.
func once(a, b []thing) bool {
	full := func(a, b thing) int {
		if c := a.rank - b.rank; c != 0 {
			return c
		}
		return a.number - b.number
	}
	return slices.Equal(slices.SortedFunc(slices.Values(a), full), slices.SortedFunc(slices.Values(b), full))
}

// model is a heap as the chapter defines it: things as they came, the first one looked for among all.
type model[T any] struct {
	compare func(a, b T) int
	things  []T
}

func (m *model[T]) push(l ...T) { m.things = append(m.things, l...) }

func (m *model[T]) place() int {
	first := 0
	for i, v := range m.things {
		if m.compare != nil && m.compare(v, m.things[first]) < 0 {
			first = i
		}
	}
	return first
}

func (m *model[T]) peek() (v T, ok bool) {
	if len(m.things) == 0 {
		return v, false
	}
	return m.things[m.place()], true
}

func (m *model[T]) pop() (v T, ok bool) {
	if v, ok = m.peek(); ok {
		i := m.place()
		m.things = slices.Delete(m.things, i, i+1)
	}
	return v, ok
}

func (m *model[T]) swap(v T) (T, bool) {
	first, ok := m.pop()
	m.push(v)
	return first, ok
}

// merged is Merge as the chapter defines it, of whole lists.
func merged[T any](compare func(a, b T) int, lists ...[]T) []T {
	lists = slices.Clone(lists)
	var all []T
	for {
		ahead := -1
		for i, l := range lists {
			if len(l) > 0 && (ahead < 0 || compare != nil && compare(l[0], lists[ahead][0]) < 0) {
				ahead = i
			}
		}
		if ahead < 0 {
			return all
		}
		all = append(all, lists[ahead][0])
		lists[ahead] = lists[ahead][1:]
	}
}

func values[T any](lists ...[]T) []iter.Seq[T] {
	var all []iter.Seq[T]
	for _, l := range lists {
		all = append(all, slices.Values(l))
	}
	return all
}

func gives[T comparable](t *testing.T, what string, got T, ok bool, want T, wantOK bool) {
	t.Helper()
	if got != want || ok != wantOK {
		t.Errorf("%s: %v, %v, want %v, %v", what, got, ok, want, wantOK)
	}
}

func lists[T comparable](t *testing.T, what string, got, want []T) {
	t.Helper()
	if !slices.Equal(got, want) {
		t.Errorf("%s: %v, want %v", what, got, want)
	}
}

func holds[T any](t *testing.T, what string, h *heaps.Heap[T], want int) {
	t.Helper()
	if h.Len() != want {
		t.Errorf("%s: Len = %d, want %d", what, h.Len(), want)
	}
}

// atMost holds a number of calls of compare against its bound, and begins to count anew.
func atMost(t *testing.T, what string, calls *int, bound int) {
	t.Helper()
	if *calls > bound {
		t.Errorf("4.8: %s: compare was called %d times, at most %d are promised", what, *calls, bound)
	}
	*calls = 0
}
