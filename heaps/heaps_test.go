package heaps_test

import (
	"slices"
	"testing"

	"witness/heaps"
)

func TestEmpty(t *testing.T) {
	h := heaps.New(byLength)
	for range 2 { // a call at an empty heap leaves it as it was
		holds(t, "4.1: New", h, 0)
		v, ok := h.Peek()
		gives(t, "4.3: Peek, empty", v, ok, "", false)
		v, ok = h.Pop()
		gives(t, "4.3: Pop, empty", v, ok, "", false)
		for v := range h.Drain() {
			t.Errorf("4.5: Drain of an empty heap gives %q", v)
		}
		h.Push()
		h.Push([]string{}...)
		h.Push([]string(nil)...)
	}
	v, ok := h.Swap("x")
	gives(t, "4.4: Swap, empty", v, ok, "", false)
	holds(t, "4.4: Swap, empty", h, 1)
	v, ok = h.Swap("yy")
	gives(t, "4.4: Swap", v, ok, "x", true)
	v, ok = h.Peek()
	gives(t, "4.4: Peek behind a Swap", v, ok, "yy", true)
	holds(t, "4.4: Swap", h, 1)
	v, ok = h.Pop()
	gives(t, "4.3: Pop", v, ok, "yy", true)
	v, ok = h.Pop()
	gives(t, "4.3: Pop, empty again", v, ok, "", false)
	v, ok = h.Swap("z")
	gives(t, "4.4: Swap, empty again", v, ok, "", false)
}

func TestPushAndPop(t *testing.T) {
	h := heaps.New(byLength)
	h.Push("cc", "a", "bbb", "b", "dd")
	holds(t, "4.1: Push of five", h, 5)
	for i, want := range words("a b cc dd bbb") {
		for range 2 {
			v, ok := h.Peek()
			gives(t, "4.3: Peek", v, ok, want, true)
			holds(t, "4.3: Peek", h, 5-i)
		}
		v, ok := h.Pop()
		gives(t, "4.3: Pop", v, ok, want, true)
		holds(t, "4.3: Pop", h, 4-i)
	}
	v, ok := h.Pop()
	gives(t, "4.3: Pop of nothing", v, ok, "", false)
}

func TestEqualThings(t *testing.T) {
	h := heaps.New(byLength)
	for i := range 100 { // one by one and several at once
		if i%3 == 0 {
			h.Push(string(rune(0x100 + i)))
		} else if i%3 == 1 {
			h.Push(string(rune(0x100+i)), string(rune(0x101+i)))
		}
	}
	for i := range 100 {
		v, ok := h.Pop()
		gives(t, "4.2, 4.3: equal things leave as they came", v, ok, string(rune(0x100+i)), true)
	}
	h.Push("a", "b")
	v, ok := h.Swap("c")
	gives(t, "4.4: Swap", v, ok, "a", true)
	v, ok = h.Swap("d")
	gives(t, "4.4: Swap", v, ok, "b", true)
	h.Push("e")
	v, ok = h.Swap("f")
	gives(t, "4.4: what a Swap put in comes behind its equals", v, ok, "c", true)
	for _, want := range words("d e f") {
		v, ok := h.Pop()
		gives(t, "4.4: Pop behind Swaps", v, ok, want, true)
	}
}

// A Swap's own thing is not the answer, not even where it goes ahead of all others.
func TestSwapWithTheLeast(t *testing.T) {
	h := heaps.New(byLength)
	h.Push("ccc", "bb", "dddd")
	v, ok := h.Swap("a")
	gives(t, "4.4: Swap", v, ok, "bb", true)
	v, ok = h.Swap("eeeee")
	gives(t, "4.4: Swap", v, ok, "a", true)
	holds(t, "4.4: Swap", h, 3)
	for _, want := range words("ccc dddd eeeee") {
		v, ok := h.Pop()
		gives(t, "4.4: Pop behind Swaps", v, ok, want, true)
	}
}

func TestDrain(t *testing.T) {
	h := heaps.New(byLength)
	each := h.Drain() // looks at what is there when it is ranged over
	h.Push("cc", "a", "bbb")
	for v := range each {
		gives(t, "4.5: the first", v, true, "a", true)
		holds(t, "4.5: within the loop", h, 2)
		break
	}
	holds(t, "4.5: left behind the first", h, 2)
	v, ok := h.Peek()
	gives(t, "4.5: what was not given is there", v, ok, "cc", true)
	lists(t, "4.5: ranged over again", slices.Collect(each), words("cc bbb"))
	holds(t, "4.5: at its end", h, 0)
	lists(t, "4.5: nothing is left", slices.Collect(each), nil)
	h.Push("z", "y")
	lists(t, "4.5: ranged over with what is there then", slices.Collect(each), words("z y"))
	h.Push("last")
	for range each {
		break
	}
	holds(t, "4.5: left behind the last", h, 0)
}

func TestDrainWhoseBodyPutsInAndTakesOut(t *testing.T) {
	h := heaps.New(byLength)
	h.Push("a", "bbb", "ccccc", "dddd")
	var l []string
	for v := range h.Drain() {
		l = append(l, v)
		switch v {
		case "a":
			h.Push("yy", "x") // x goes ahead of what is there
		case "yy":
			out, ok := h.Pop()
			gives(t, "4.5: Pop in the body", out, ok, "bbb", true)
		case "ccccc":
			h.Push("") // behind the last one
		}
	}
	lists(t, "4.5: Drain", l, []string{"a", "x", "yy", "dddd", "ccccc", ""})
	h.Push("a", "b", "c", "d", "e")
	l = nil
	for v := range h.Drain() { // two at one time
		for w := range h.Drain() {
			l = append(l, v+w)
			break
		}
	}
	lists(t, "4.5: Drain within a Drain", l, words("ab cd"))
	holds(t, "4.5: Drain within a Drain", h, 0)
}

func TestNilCompare(t *testing.T) {
	h := heaps.New[int](nil)
	h.Push(3, 1, 2)
	v, ok := h.Peek()
	gives(t, "4.2: without a compare the first that came", v, ok, 3, true)
	v, ok = h.Swap(0)
	gives(t, "4.4: without a compare", v, ok, 3, true)
	h.Push(9, -1)
	lists(t, "4.3: without a compare all leave as they came", slices.Collect(h.Drain()), []int{1, 2, 0, 9, -1})
}

// Each call is held against a heap in which the first thing is looked for among all.
func TestFollowsTheDefinition(t *testing.T) {
	for name, compare := range orders {
		r := noise(len(name))
		calls, number := 0, 0
		next := func() thing {
			number++
			return thing{r.below(12), number}
		}
		h, m := heaps.New(counted(compare, &calls)), &model[thing]{compare: compare}
		if compare == nil {
			h = heaps.New(compare)
		}
		for step := range 6000 {
			b := digits(h.Len())
			calls = 0
			switch kind := r.below(10); {
			case kind < 3 && step%1000 < 500 || kind < 2:
				v := next()
				h.Push(v)
				m.push(v)
				atMost(t, name+": Push", &calls, b+1)
			case kind < 4:
				l := make([]thing, r.below(4))
				bound := 0
				for i := range l {
					l[i] = next()
					bound += digits(h.Len()+i) + 1
				}
				h.Push(l...)
				m.push(l...)
				atMost(t, name+": Push of several", &calls, bound)
			case kind < 5:
				got, ok := h.Peek()
				want, wantOK := m.peek()
				gives(t, "4.2, 4.3: "+name+": Peek", got, ok, want, wantOK)
				atMost(t, name+": Peek", &calls, 0)
			case kind < 7:
				got, ok := h.Pop()
				want, wantOK := m.pop()
				gives(t, "4.2, 4.3: "+name+": Pop", got, ok, want, wantOK)
				atMost(t, name+": Pop", &calls, 2*b+2)
			case kind < 9:
				v := next()
				got, ok := h.Swap(v)
				want, wantOK := m.swap(v)
				gives(t, "4.4: "+name+": Swap", got, ok, want, wantOK)
				atMost(t, name+": Swap", &calls, 2*b+2)
			default:
				n := r.below(4)
				for got := range h.Drain() {
					want, ok := m.pop()
					gives(t, "4.5: "+name+": Drain", got, true, want, ok)
					if n--; n < 0 {
						break
					}
				}
			}
			calls = 0
			if h.Len() != len(m.things) {
				t.Fatalf("4.1: %s: Len = %d, want %d", name, h.Len(), len(m.things))
			}
			atMost(t, name+": Len", &calls, 0)
		}
	}
}

// Whatever compare answers: every call ends, each thing comes out once, and no call compares more than is promised.
func TestEveryCompare(t *testing.T) {
	calls := 0
	eachCompare(&calls, func(name string, compare func(a, b thing) int) {
		for n := range 70 {
			r := noise(n)
			h := heaps.New(compare)
			put, out := r.things(n), []thing(nil)
			for i, v := range put {
				calls = 0
				h.Push(v)
				atMost(t, name+": Push", &calls, digits(i)+1)
			}
			for i := range 2 * n {
				v := thing{r.below(n), n + i}
				put = append(put, v)
				b := digits(h.Len())
				calls = 0
				first, ok := h.Swap(v)
				atMost(t, name+": Swap", &calls, 2*b+2)
				gives(t, "4.4: "+name+": Swap", 0, ok, 0, true)
				out = append(out, first)
				holds(t, "4.4: "+name+": Swap", h, n)
			}
			for left := n; left > 0; left-- {
				calls = 0
				seen, _ := h.Peek()
				atMost(t, name+": Peek", &calls, 0)
				first, ok := h.Pop()
				atMost(t, name+": Pop", &calls, 2*digits(left)+2)
				gives(t, "4.3: "+name+": Pop is what Peek was", first, ok, seen, true)
				out = append(out, first)
				holds(t, "4.3: "+name+": Pop", h, left-1)
			}
			if _, ok := h.Pop(); ok || !once(put, out) {
				t.Errorf("4.3: %s: put in %v, came out %v", name, put, out)
			}
			atMost(t, name+": Pop of nothing", &calls, 2)
		}
	})
}

// The longest ways through a heap: things that come in falling order rise to the top, and one that goes behind all sinks to the ground.
func TestFarthestWays(t *testing.T) {
	calls := 0
	h := heaps.New(counted(func(a, b int) int { return a - b }, &calls))
	for i := range 1100 {
		b := digits(h.Len())
		calls = 0
		h.Push(-i)
		atMost(t, "Push of the least", &calls, b+1)
		b = digits(h.Len())
		v, _ := h.Swap(i)
		atMost(t, "Swap with the greatest", &calls, 2*b+2)
		h.Push(v)
		b = digits(h.Len())
		calls = 0
		v, _ = h.Pop()
		atMost(t, "Pop", &calls, 2*b+2)
		gives(t, "4.3: Pop", v, true, -i, true)
	}
}

func TestWhatIsHandedInIsNotKept(t *testing.T) {
	room := []string{"bb", "a", "ccc", "spare", "room"}
	l := room[:3]
	h := heaps.New(byLength)
	h.Push(l...)
	lists(t, "4.1, 0.4: Push changes no list", room, words("bb a ccc spare room"))
	l[1], l[2] = "dddddd", ""
	lists(t, "4.1, 0.4: who changes the list later changes nothing", slices.Collect(h.Drain()), words("a bb ccc"))
	lists(t, "4.1, 0.4: Drain changes no list", room, []string{"bb", "dddddd", "", "spare", "room"})
}

func TestHeapsKnowNothingOfOneAnother(t *testing.T) {
	a, b := heaps.New(byLength), heaps.New(byLength)
	a.Push("x", "y")
	b.Push("z")
	holds(t, "0.3: one heap", a, 2)
	holds(t, "0.3: the other", b, 1)
	lists(t, "0.3: one heap", slices.Collect(a.Drain()), words("x y"))
	lists(t, "0.3: the other", slices.Collect(b.Drain()), words("z"))
}
