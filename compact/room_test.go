package compact_test

import (
	"fmt"
	"strings"
	"testing"

	"witness/api"
	"witness/catalog"
	"witness/compact"
)

// TestJustRoom: the live frames of the first victim and the page have just a segment's bytes less its header; and one byte more.
func TestJustRoom(t *testing.T) {
	const whole = 2048
	for _, others := range []int{0, 1, 2, 6} {
		with := func(live int) layout {
			l := layout{whole: whole, versions: 14, free: 1, segs: [][]int{{live, -whole + header + live}}}
			for range others { // of which more is live, but at most half
				l.segs = append(l.segs, []int{1023, -whole + header + 1023})
			}
			return l
		}
		c, n, e := with(600).run(t)
		if n != 1 || e != api.OK {
			t.Fatalf("15.5: Run = %d, %d", n, e)
		}
		live := whole - header - c.Super().Page.Len
		if live <= 600 || live >= 1023 {
			t.Fatalf("15.5: the page has %d bytes", c.Super().Page.Len)
		}
		for more := -1; more <= 1; more++ {
			l := with(live + more)
			_, before := l.open(t)
			if v, _ := compact.Victims(before); len(v) != others+1 || v[0] != 0 {
				t.Fatalf("15.2: Victims = %v", v)
			}
			was, facts := viewOf(before), factsOf(t, before)
			c, n, e := l.run(t)
			what := fmt.Sprintf("%d other victims, %d bytes", others, live+more)
			d := c.Blobs().Log().Disk()
			if more <= 0 {
				tail := c.Blobs().Log().Tail()
				if n != 1 || e != api.OK || tail.Marks[tail.Current].Used != whole+more {
					t.Errorf("15.5: %s: Run = %d, %d, %v", what, n, e, tail)
				}
			} else {
				if n != 0 || e != api.ErrFull {
					t.Errorf("15.3: %s: Run = %d, %d", what, n, e)
				}
				same(t, "15.3: "+what, viewOf(c), was)
				same(t, "15.3: opened again, "+what, viewOf(open(t, d)), was)
			}
			stays(t, what, c, facts)
			stays(t, what+", opened again", open(t, d), facts)
		}
	}
}

// TestInAnyOrder: 15.5 holds however many frames the first victim has, and wherever the current segment ends.
func TestInAnyOrder(t *testing.T) {
	r := noise(5)
	for range 150 {
		l := layout{whole: 1024, versions: 1 + r.IntN(4), free: 1, spare: r.IntN(300)}
		for range 1 + r.IntN(4) {
			seg, n := []int{}, 1+r.IntN(4)
			for range n {
				seg = append(seg, 20+r.IntN(500/n), 30-1000/n)
			}
			l.segs = append(l.segs, seg)
		}
		for i, seg := range l.segs { // no more than fits
			for header+sumAbs(seg) > l.whole {
				seg = seg[1:]
			}
			l.segs[i] = seg
		}
		_, c := l.open(t)
		v, e := compact.Victims(c)
		if must(t, "15.2: Victims", e); len(v) == 0 {
			continue
		}
		_, live := liveFrames(c, v[0])
		const more = 40 // marks are told by fewer bytes, or by more
		fits := live+c.Super().Page.Len+more <= l.whole-header
		if _, n, e := l.run(t); fits && (n < 1 || e != api.OK) {
			t.Errorf("15.5: %v: %d live bytes, a page of %d: Run = %d, %d", l, live, c.Super().Page.Len, n, e)
		}
	}
}

func sumAbs(l []int) int {
	n := 0
	for _, x := range l {
		n += max(x, -x)
	}
	return n
}

// fill commits versions until the store is full; how many these were.
func fill(t *testing.T, c *catalog.Catalog, edits func(i int) api.Edit) int {
	t.Helper()
	for i := range 1000 {
		switch e := apply(c, edits(i)); e {
		case api.OK:
		case api.ErrFull:
			return i
		default:
			t.Fatalf("14.8: Add: %d", e)
		}
	}
	t.Fatal("the store is never full")
	return 0
}

// TestFull: a store that is full takes versions again behind Run, again and again; one free segment is what room is made with.
func TestFull(t *testing.T) {
	for _, window := range []int{1, 2} {
		d, c := store(t, 12, 4096, window)
		for round := range 12 {
			n := fill(t, c, func(i int) api.Edit {
				return edit(string(rune('a'+(i+round)%4)), strings.Repeat(fmt.Sprint(i, round), 250))
			})
			if round > 0 && n == 0 {
				t.Fatalf("15.5: window %d, round %d: no version was taken behind Run", window, round)
			}
			if free(c) < 1 {
				t.Fatalf("14.2: round %d: no segment is held back", round)
			}
			was := factsOf(t, c)
			if k := runsAll(t, c); k < 1 {
				t.Fatalf("15.5: window %d, round %d: no segment became free", window, round)
			}
			stays(t, "behind Run", c, was)
			if round%3 == 0 {
				c = open(t, d)
				stays(t, "opened again", c, was)
			}
		}
	}
}

// halfLive holds 15.6.
func halfLive(t *testing.T, what string, c *catalog.Catalog) {
	t.Helper()
	l, e := compact.Usage(c)
	must(t, "15.1: Usage", e)
	for _, u := range l {
		if u.Used > 0 && u.Seg != c.Blobs().Log().Tail().Current && 2*u.Live <= u.Used {
			t.Errorf("15.6: %s: %+v", what, u)
		}
	}
}

// TestUntilNoVictim: Run again and again comes to an end, where the page is small.
func TestUntilNoVictim(t *testing.T) {
	r := noise(6)
	most := 0
	for range 40 {
		d, c := store(t, 14, 1024, 1+r.IntN(2))
		for range 5 + r.IntN(25) {
			key, value := string(rune('a'+r.IntN(5))), strings.Repeat(fmt.Sprint(r.IntN(10)), r.IntN(150))
			if e := apply(c, edit(key, value)); e != api.OK && e != api.ErrFull {
				t.Fatalf("14.8: Add: %d", e)
			}
		}
		was := factsOf(t, c)
		for rounds := 0; ; rounds++ {
			before := free(c)
			n, e := compact.Run(c)
			if e == api.ErrVictim {
				most = max(most, rounds)
				break
			}
			if e == api.ErrFull {
				t.Fatalf("15.5: Run = %d, %d, %d free", n, e, before)
			}
			if must(t, "15.3: Run", e); rounds > 20 {
				t.Fatal("15.3: Run finds a victim again and again")
			}
			stays(t, "on the way", c, was)
		}
		halfLive(t, "behind ErrVictim", c)
		untouched(t, "15.3: behind ErrVictim", c, func() { runs(t, "again", c, 0, api.ErrVictim) })
		stays(t, "in the end", c, was)
		stays(t, "opened again", open(t, d), was)
		halfLive(t, "opened again", open(t, d))
	}
	if most < 2 {
		t.Errorf("at most %d rounds", most)
	}
}

// TestGreatPage: where the page has most of a segment's bytes, what it leaves behind is a victim again, each time; nothing is lost on this way.
func TestGreatPage(t *testing.T) {
	d, c := layout{whole: 1024, segs: [][]int{{200, -400}}, versions: 6, free: 4}.open(t)
	was := factsOf(t, c)
	for range 30 {
		runs(t, "a great page", c, 1, api.OK)
		told(t, "a great page", c)
		stays(t, "a great page", c, was)
	}
	stays(t, "a great page, opened again", open(t, d), was)
}

// TestShared: versions that share towers, some of them gone and some kept.
func TestShared(t *testing.T) {
	const keys = "abcdefgh"
	for _, window := range []int{1, 2, 5} {
		d, c := store(t, 30, 2048, window)
		for _, k := range keys {
			must(t, "14.8: Add", apply(c, edit(string(k), strings.Repeat(string(k), 60))))
		}
		for i, k := range keys {
			must(t, "14.8: Add", apply(c, edit(string(k), fmt.Sprint("another ", i))))
			if i%3 == 2 {
				must(t, "14.8: Add", apply(c, gone(string(k))))
			}
			was := factsOf(t, c)
			runsAll(t, c)
			stays(t, fmt.Sprintf("window %d, key %c", window, k), c, was)
			stays(t, fmt.Sprintf("window %d, key %c, opened again", window, k), open(t, d), was)
		}
		must(t, "14.9: Keep", c.Keep(1))
		was := factsOf(t, c)
		runsAll(t, c)
		stays(t, "one version is kept", c, was)
		stays(t, "one version is kept, opened again", open(t, d), was)
	}
}

// runsAll runs until there is no victim; how many segments became free.
func runsAll(t *testing.T, c *catalog.Catalog) int {
	t.Helper()
	all := 0
	for range 50 {
		n, e := compact.Run(c)
		if all += n; e == api.ErrVictim {
			return all
		}
		must(t, "15.3: Run", e)
	}
	t.Fatal("15.3: Run finds a victim again and again")
	return 0
}

// TestSameMapAgain: what was forgotten is written anew where it is needed again, with all that it needs.
func TestSameMapAgain(t *testing.T) {
	d, c := store(t, 24, 2048, 1)
	edits := func(value string) []api.Edit {
		var l []api.Edit
		for _, k := range "abcdefghijkl" {
			l = append(l, edit(string(k), value+string(k)))
		}
		return l
	}
	trees := map[string]api.Tree{}
	for round := range 12 {
		for _, value := range []string{"one", "two", "three"} {
			must(t, "14.8: Add", apply(c, edits(value)...))
			tree := c.Latest().Tree
			if was, ok := trees[value]; ok && was != tree {
				t.Fatalf("15.4: the same map has another tree: %v, %v", tree, was)
			}
			trees[value] = tree
			was := factsOf(t, c)
			if round%2 == 0 || value == "two" {
				runsAll(t, c)
			}
			stays(t, value, c, was)
			if round%3 == 1 {
				c = open(t, d)
				stays(t, value+", opened again", c, was)
			}
		}
	}
}

// TestForgets: behind Run only what is live is there, wherever it lies; behind a refused Run all that was there is.
func TestForgets(t *testing.T) {
	d, c := layout{whole: 1024, segs: [][]int{{100, -300}, {600}}, versions: 2, free: 2, spare: 200}.open(t)
	b := c.Blobs()
	stray, e := b.Put(api.KindValue, []byte("needed by nobody"))
	must(t, "6.3: Put", e)
	place, _ := b.Where(stray)
	x := d.Copy()
	was := each(b)
	d.Fuse(3)
	runs(t, "the power gone", c, 0, api.ErrPower)
	holds(t, "15.3: behind a refused Run", each(b), was)

	c = open(t, x)
	b = c.Blobs()
	_, e = b.Put(api.KindValue, []byte("needed by nobody"))
	must(t, "6.3: Put", e)
	runs(t, "a stray blob", c, 1, api.OK)
	live, _ := c.Live()
	if _, there := b.Where(stray); there || b.Len() != len(live) {
		t.Errorf("15.3: %d blobs are there, %d are live", b.Len(), len(live))
	}
	again, e := b.Put(api.KindValue, []byte("needed by nobody"))
	if now, _ := b.Where(again); again != stray || e != api.OK || now == place {
		t.Errorf("6.7: Put = %v, %d, at %v", again, e, now)
	}
}
