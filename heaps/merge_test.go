package heaps_test

import (
	"iter"
	"runtime"
	"slices"
	"strconv"
	"testing"
	"time"

	"witness/heaps"
)

func TestMerge(t *testing.T) {
	m := heaps.Merge(byLength, values(words("a cc ddd"), words("b bb x"))...)
	for range 3 {
		lists(t, "4.7: Merge, ranged over again", slices.Collect(m), words("a b cc bb x ddd"))
	}
	for _, c := range []struct {
		what  string
		lists []iter.Seq[string]
		want  string
	}{
		{"no list", nil, ""},
		{"a nil list", []iter.Seq[string]{nil}, ""},
		{"nil lists", []iter.Seq[string]{nil, nil, nil}, ""},
		{"an empty list", values([]string{}), ""},
		{"empty lists", values([]string{}, nil, []string{}), ""},
		{"one list", values(words("bb a ccc")), "bb a ccc"},
		{"one list among nil ones and empty ones", []iter.Seq[string]{nil, slices.Values([]string{}), slices.Values(words("a bb")), nil}, "a bb"},
		{"equal things, the earlier list first", values(words("a b"), words("c"), words("d e f")), "a b c d e f"},
		{"equal things behind a nil list", []iter.Seq[string]{nil, slices.Values(words("b")), nil, slices.Values(words("a"))}, "b a"},
		{"an end ahead of the others", values(words("a"), words("bb"), words("c dd")), "a c bb dd"},
		{"lists in falling order", values(words("ccc bb a"), words("ddd e")), "ccc bb a ddd e"},
		{"the later list ahead", values(words("bbb"), words("a")), "a bbb"},
	} {
		lists(t, "4.7: Merge of "+c.what, slices.Collect(heaps.Merge(byLength, c.lists...)), words(c.want))
	}
	lists(t, "4.7: without a compare", slices.Collect(heaps.Merge(nil, values([]int{1, 2}, []int{3})...)), []int{1, 2, 3})
	lists(t, "4.7: without a compare", slices.Collect(heaps.Merge(nil, values([]int{9, 2}, nil, []int{1, 3})...)), []int{9, 2, 1, 3})
}

// sidesFor are lists of things, in order or not, some of them empty.
func sidesFor(r *noise, k int, ordered bool) (sides [][]thing, all []thing) {
	for i := range k {
		l := make([]thing, r.below(6)*r.below(3))
		for j := range l {
			l[j] = thing{r.below(9), 100*i + j}
		}
		if ordered {
			slices.SortStableFunc(l, byRank)
		}
		sides, all = append(sides, l), append(all, l...)
	}
	return sides, all
}

func TestMergeFollowsTheDefinition(t *testing.T) {
	for seed := range 300 {
		r := noise(seed)
		k := r.below(12)
		sides, _ := sidesFor(&r, k, false)
		for name, compare := range orders {
			lists(t, "4.7: "+name+": Merge", slices.Collect(heaps.Merge(compare, values(sides...)...)), merged(compare, sides...))
		}
		ordered, all := sidesFor(&r, k, true)
		lists(t, "4.7: Merge of lists in order is the Sort of all", slices.Collect(heaps.Merge(byRank, values(ordered...)...)), heaps.Sort(all, byRank))
	}
}

// steps are what the lists of a Merge and who ranges over it do, in its order.
type steps []string

func (s *steps) add(what string, who int) { *s = append(*s, what+strconv.Itoa(who)) }

// list gives numbers, and notes when it is begun, asked for the next one, left and at its end.
func (s *steps) list(who int, l ...int) iter.Seq[int] {
	return func(yield func(int) bool) {
		s.add("begin", who)
		for _, v := range l {
			if !yield(v) {
				s.add("left", who)
				return
			}
			s.add("asked", who)
		}
		s.add("end", who)
	}
}

func byNumber(a, b int) int { return a - b }

func TestWhatMergeAsksAndWhen(t *testing.T) {
	var s steps
	m := heaps.Merge(byNumber, s.list(1, 10, 30), s.list(2, 20, 20), nil, s.list(3), s.list(4, 15))
	lists(t, "4.7: nothing is asked ahead of the ranging", s, nil)
	for range 2 {
		s = nil
		for v := range m {
			s.add("given", v)
		}
		lists(t, "4.7: what is asked and when", s, words(`begin1 begin2 begin3 end3 begin4
			given10 asked1 given15 asked4 end4 given20 asked2 given20 asked2 end2 given30 asked1 end1`))
	}
	for n, want := range []string{
		"begin1 begin2 begin3 end3 begin4 given10 left1 left2 left4",
		"begin1 begin2 begin3 end3 begin4 given10 asked1 given15 left1 left2 left4",
		"begin1 begin2 begin3 end3 begin4 given10 asked1 given15 asked4 end4 given20 left1 left2",
		"begin1 begin2 begin3 end3 begin4 given10 asked1 given15 asked4 end4 given20 asked2 given20 left1 left2",
		"begin1 begin2 begin3 end3 begin4 given10 asked1 given15 asked4 end4 given20 asked2 given20 asked2 end2 given30 left1",
	} {
		s = nil
		for v := range m {
			s.add("given", v)
			if n--; n < 0 {
				break
			}
		}
		slices.Sort(s[len(s)-countLeft(s):]) // in which order lists are left is not said
		lists(t, "4.7: what is asked and when, left early", s, words(want))
	}
}

func countLeft(s steps) (n int) {
	for _, what := range s {
		if what[:4] == "left" {
			n++
		}
	}
	return n
}

func TestMergeLeavesItsListsWhenTheBodyPanics(t *testing.T) {
	var s steps
	m := heaps.Merge(byNumber, s.list(1, 1, 4), s.list(2, 2, 5))
	func() {
		defer func() {
			if recover() == nil {
				t.Errorf("the body's panic is gone")
			}
		}()
		for v := range m {
			if v == 2 {
				panic("a body that panics")
			}
		}
	}()
	slices.Sort(s[len(s)-2:])
	lists(t, "4.7: the ranging has ended", s, words("begin1 begin2 asked1 left1 left2"))
}

func TestMergeWithinMerge(t *testing.T) {
	var s steps
	inner := heaps.Merge(byNumber, s.list(1, 1, 4), s.list(2, 2, 5))
	outer := heaps.Merge(byNumber, inner, inner, s.list(3, 3))
	lists(t, "4.7: one list twice", slices.Collect(outer), []int{1, 1, 2, 2, 3, 4, 4, 5, 5})
	var pairs []int
	for v := range inner {
		for w := range inner {
			pairs = append(pairs, 10*v+w)
		}
	}
	lists(t, "4.7: ranged over within its own ranging", pairs, []int{11, 12, 14, 15, 21, 22, 24, 25, 41, 42, 44, 45, 51, 52, 54, 55})
	next, stop := iter.Pull(outer)
	v, ok := next()
	gives(t, "4.7: asked from outside", v, ok, 1, true)
	s = nil
	stop()
	if countLeft(s) != 5 {
		t.Errorf("4.7: of five lists these are left: %v", s)
	}
}

// A list that goes on giving when nobody listens any more is not heard.
func TestMergeOfAListThatDoesNotListen(t *testing.T) {
	deaf := func(yield func(int) bool) {
		for i := range 5 {
			yield(2 * i)
		}
	}
	m := heaps.Merge(byNumber, deaf, slices.Values([]int{1, 3}))
	for v := range m {
		if v == 1 {
			break
		}
	}
	lists(t, "4.7: a list that does not listen", slices.Collect(m), []int{0, 1, 2, 3, 4, 6, 8})
}

func TestMergeKeepsNoListOfLists(t *testing.T) {
	room := values([]int{1, 4}, []int{2}, []int{3})
	l := room[:2]
	m := heaps.Merge(byNumber, l...)
	l[0], l[1] = nil, slices.Values([]int{9})
	lists(t, "4.7, 0.4: who changes the list of lists later changes nothing", slices.Collect(m), []int{1, 2, 4})
	if l[0] != nil || room[2] == nil {
		t.Errorf("4.7, 0.4: the list of lists is changed")
	}
	numbers := []int{5, 6}
	m = heaps.Merge(byNumber, slices.Values(numbers))
	numbers[0] = 4
	lists(t, "0.6: a list is looked at when it is ranged over", slices.Collect(m), []int{4, 6})
}

// How much a Merge compares ahead of its first thing, between one and the next, and behind the last.
func TestMergeComparesLittle(t *testing.T) {
	calls := 0
	eachCompare(&calls, func(name string, compare func(a, b thing) int) {
		for k := range 40 {
			r := noise(k)
			sides, all := sidesFor(&r, k, k%2 == 0)
			calls = 0
			m := heaps.Merge(compare, values(sides...)...)
			atMost(t, name+": Merge ahead of its ranging", &calls, 0)
			c := digits(k)
			bound := k * (3*c + 3)
			var out []thing
			for v := range m {
				atMost(t, name+": Merge", &calls, bound)
				bound = 3*c + 3
				out = append(out, v)
			}
			atMost(t, name+": Merge behind its last thing", &calls, bound)
			if !once(out, all) {
				t.Errorf("4.7: %s: Merge of %v gives %v", name, sides, out)
			}
		}
	})
}

// Many lists, of which one is much longer: what is compared hangs on how many lists there are, not on how long they are.
func TestMergeOfManyLists(t *testing.T) {
	const k = 300
	var sides [][]int
	for i := range k {
		l := []int{i, k + i, 2*k + i}
		if i == 7 {
			for v := range 3000 {
				l = append(l, 3*k+v)
			}
		}
		sides = append(sides, l)
	}
	calls, bound, n := 0, k*(3*digits(k)+3), 0
	for v := range heaps.Merge(counted(byNumber, &calls), values(sides...)...) {
		atMost(t, "Merge of many lists", &calls, bound)
		bound = 3*digits(k) + 3
		gives(t, "4.7: Merge of many lists", v, true, n, true)
		n++
	}
	gives(t, "4.7: Merge of many lists: how many", n, true, 3*k+3000, true)
}

func TestNoGoroutineIsLeftBehind(t *testing.T) {
	before := runtime.NumGoroutine()
	m := heaps.Merge(byNumber, values([]int{1, 4}, []int{2, 5}, []int{3, 6})...)
	for n := range 100 {
		for v := range m {
			if v > n%7 {
				break
			}
		}
	}
	for range 100 { // those of the test's own surroundings may need a moment
		if runtime.NumGoroutine() <= before {
			return
		}
		time.Sleep(10 * time.Millisecond)
	}
	t.Errorf("4.7, 0.5: %d goroutines ahead of it, %d behind it", before, runtime.NumGoroutine())
}
