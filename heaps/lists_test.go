package heaps_test

import (
	"math"
	"slices"
	"testing"

	"witness/heaps"
)

func TestSortAndLeast(t *testing.T) {
	l := words("cc a bbb b")
	lists(t, "4.6: Sort", heaps.Sort(l, byLength), words("a b cc bbb"))
	for n, want := range map[int]string{
		math.MinInt: "", -1: "", 0: "", 1: "a", 2: "a b", 3: "a b cc", 4: "a b cc bbb", 5: "a b cc bbb", 9: "a b cc bbb", math.MaxInt: "a b cc bbb",
	} {
		lists(t, "4.6: Least", heaps.Least(l, n, byLength), words(want))
		lists(t, "4.6: Least of nothing", heaps.Least(nil, n, byLength), nil)
		lists(t, "4.6: Least of an empty list", heaps.Least([]string{}, n, byLength), nil)
		lists(t, "4.6: Least without a compare", heaps.Least(l, n, nil), l[:min(max(n, 0), 4)])
	}
	lists(t, "4.6: Sort of nothing", heaps.Sort(nil, byLength), nil)
	lists(t, "4.6: Sort of an empty list", heaps.Sort([]string{}, byLength), nil)
	lists(t, "4.6: Sort of one", heaps.Sort(words("one"), byLength), words("one"))
	lists(t, "4.6: Sort without a compare", heaps.Sort(l, nil), l)
	lists(t, "4.6: the list", l, words("cc a bbb b"))
}

// shapes are lists of one length, of which each makes other ways through a heap.
func shapes(n int) [][]thing {
	r := noise(n)
	rising, falling, alike := make([]thing, n), make([]thing, n), make([]thing, n)
	for i := range n {
		rising[i], falling[i], alike[i] = thing{i, i}, thing{n - i, i}, thing{7, i}
	}
	return [][]thing{rising, falling, alike, r.things(n), r.things(n)}
}

func TestSortIsStable(t *testing.T) {
	for _, n := range []int{0, 1, 2, 3, 4, 5, 7, 8, 9, 31, 32, 33, 100, 1000} {
		for _, l := range shapes(n) {
			for name, compare := range orders {
				calls := 0
				got := heaps.Sort(l, counted(compare, &calls))
				atMost(t, name+": Sort", &calls, n*(3*digits(n)+3))
				lists(t, "4.6: "+name+": Sort", got, sorted(l, compare))
			}
		}
	}
}

func TestLeastIsTheBeginningOfSort(t *testing.T) {
	for _, m := range []int{0, 1, 2, 3, 4, 5, 8, 15, 33, 70} {
		for _, l := range shapes(m) {
			for name, compare := range orders {
				want := sorted(l, compare)
				for n := -2; n <= m+2; n++ {
					calls := 0
					got := heaps.Least(l, n, counted(compare, &calls))
					if n < 1 {
						atMost(t, name+": Least of none", &calls, 0)
					}
					atMost(t, name+": Least", &calls, m*(3*digits(min(n, m))+3))
					lists(t, "4.6: "+name+": Least", got, want[:min(max(n, 0), m)])
				}
			}
		}
	}
}

// The few of many: what is compared hangs on how few are asked for.
func TestLeastOfMany(t *testing.T) {
	for _, l := range shapes(4000) {
		for _, n := range []int{1, 2, 3, 4, 10} {
			calls := 0
			got := heaps.Least(l, n, counted(byRank, &calls))
			atMost(t, "Least of many", &calls, len(l)*(3*digits(n)+3))
			lists(t, "4.6: Least of many", got, sorted(l, byRank)[:n])
		}
	}
}

func TestListsWithEveryCompare(t *testing.T) {
	calls := 0
	eachCompare(&calls, func(name string, compare func(a, b thing) int) {
		for m := range 40 {
			r := noise(m)
			l := r.things(m)
			calls = 0
			got := heaps.Sort(l, compare)
			atMost(t, name+": Sort", &calls, m*(3*digits(m)+3))
			if !once(got, l) {
				t.Errorf("4.6: %s: Sort of %v is %v", name, l, got)
			}
			for n := range m + 2 {
				calls = 0
				got := heaps.Least(l, n, compare)
				atMost(t, name+": Least", &calls, m*(3*digits(min(n, m))+3))
				if len(got) != min(n, m) || !within(got, l) {
					t.Errorf("4.6: %s: Least of %d of %v is %v", name, n, l, got)
				}
			}
		}
	})
}

// within tells whether each thing of a list is one of the other's, and none twice.
func within(l, all []thing) bool {
	seen := map[thing]int{}
	for _, v := range l {
		if seen[v]++; seen[v] > 1 || !slices.Contains(all, v) {
			return false
		}
	}
	return true
}

func TestListsAreNewMemory(t *testing.T) {
	room := []int{3, 1, 2, 77, 78}
	for name, call := range map[string]func(l []int, compare func(a, b int) int) []int{
		"Sort":         heaps.Sort[int],
		"Least":        func(l []int, compare func(a, b int) int) []int { return heaps.Least(l, 2, compare) },
		"Least of all": func(l []int, compare func(a, b int) int) []int { return heaps.Least(l, 9, compare) },
	} {
		for _, compare := range []func(a, b int) int{func(a, b int) int { return a - b }, nil} {
			l := room[:3]
			one, other := call(l, compare), call(l, compare)
			want := slices.Clone(other)
			for _, answer := range [][]int{one, other} {
				answer = answer[:cap(answer)]
				if answer[0] == 99 {
					t.Errorf("0.4: %s: two answers share memory", name)
				}
				for i := range answer {
					answer[i] = 99
				}
			}
			lists(t, "4.6, 0.4: "+name+" changes no list", room, []int{3, 1, 2, 77, 78})
			answer := call(l, compare)
			l[0], l[1], l[2] = 50, 51, 52
			lists(t, "0.4: "+name+": who changes the list later changes nothing", answer, want)
			copy(room, []int{3, 1, 2, 77, 78})
		}
	}
}
