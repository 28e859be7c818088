package compact_test

import (
	"crypto/sha256"
	"fmt"
	"slices"
	"testing"

	"witness/api"
	"witness/catalog"
	"witness/codec"
	"witness/compact"
	"witness/disk"
	"witness/node"
)

// told holds Usage and Victims against the model.
func told(t *testing.T, what string, c *catalog.Catalog) {
	t.Helper()
	u, e := compact.Usage(c)
	want, f := modelUsage(c)
	if !slices.Equal(u, want) || e != f {
		t.Errorf("15.1: %s: Usage = %+v, %d\nwant %+v, %d", what, u, e, want, f)
	}
	v, e := compact.Victims(c)
	segs, f := modelVictims(c)
	if !slices.Equal(v, segs) || e != f {
		t.Errorf("15.2: %s: Victims = %v, %d, want %v, %d", what, v, e, segs, f)
	}
}

// refuses holds Usage and Victims against an error, with which there is no list.
func refuses(t *testing.T, what string, c *catalog.Catalog, want api.Errno) {
	t.Helper()
	if l, e := compact.Usage(c); l != nil || e != want {
		t.Errorf("15.1: %s: Usage = %v, %d, want %d", what, l, e, want)
	}
	if l, e := compact.Victims(c); l != nil || e != want {
		t.Errorf("15.2: %s: Victims = %v, %d, want %d", what, l, e, want)
	}
}

// runs holds Run against an answer.
func runs(t *testing.T, what string, c *catalog.Catalog, n int, want api.Errno) {
	t.Helper()
	if got, e := compact.Run(c); got != n || e != want {
		t.Errorf("15.3: %s: Run = %d, %d, want %d, %d", what, got, e, n, want)
	}
}

func hasVictims(t *testing.T, what string, c *catalog.Catalog, want ...int) {
	t.Helper()
	if l, e := compact.Victims(c); !slices.Equal(l, want) || e != api.OK {
		t.Errorf("15.2: %s: Victims = %v, %d, want %v", what, l, e, want)
	}
}

// TestUsage: segments of which each frame is known.
func TestUsage(t *testing.T) {
	segs := [][]int{{100, -200, 300}, {-50}, {}, {16}, {-400, 16, -16, 500}, {900}, {16, 17, 18, -19, 20}}
	l := layout{whole: 1024, segs: segs, versions: 2, free: 3, spare: 90}
	_, c := l.open(t)
	u, e := compact.Usage(c)
	must(t, "15.1: Usage", e)
	tail := c.Blobs().Log().Tail()
	if len(u) != len(tail.Marks) {
		t.Fatalf("15.1: Usage of %d segments, want %d", len(u), len(tail.Marks))
	}
	for seg, x := range u {
		want := api.Usage{Seg: seg, Used: tail.Marks[seg].Used}
		switch {
		case seg < len(segs):
			want.Used = header
			for _, n := range segs[seg] {
				want.Used += max(n, -n)
				want.Live += max(n, 0)
			}
		case seg < tail.Current: // towers and annals, live but for the header
			want.Live = want.Used - header
		case seg == tail.Current: // a frame that nobody needs, and the page, which is not live
			want.Used = l.whole - l.spare
		default:
			want.Used = 0
		}
		if want.Used > 0 {
			want.Fill = float64(want.Live) / float64(want.Used)
		}
		if x != want {
			t.Errorf("15.1: segment %d: %+v, want %+v", seg, x, want)
		}
	}
	told(t, "a layout", c)
}

// TestUsageFollows: Usage is that of the log's tail and of the index now, within a change too, and of what is live by the last commit.
func TestUsageFollows(t *testing.T) {
	_, c := layout{whole: 1024, segs: [][]int{{100, -200}, {300, -100}}, versions: 1, free: 3, spare: 200}.open(t)
	b := c.Blobs()
	current := b.Log().Tail().Current
	usage := func(seg, used, live int) {
		t.Helper()
		u, e := compact.Usage(c)
		if e != api.OK || u[seg].Used != used || u[seg].Live != live {
			t.Errorf("15.1: segment %d: %+v, %d, want %d of %d", seg, u[seg], e, live, used)
		}
		told(t, "on the way", c)
	}
	usage(0, 316, 100)
	usage(current, 824, 0)
	must(t, "6.8: Begin", b.Begin())
	addrs, _ := liveFrames(c, 0)
	must(t, "6.6: Move", b.Move(addrs[0]))
	usage(0, 316, 0)
	usage(current, 924, 100)
	_, e := b.Put(api.KindValue, make([]byte, 20)) // needed by nobody
	must(t, "6.3: Put", e)
	usage(current, 958, 100)
	must(t, "5.3: Next", b.Log().Next())
	usage(current+1, header, 0)
	hasVictims(t, "behind Next", c, 0, current) // which is not the current one any more
	_, e = b.Drop(0)
	must(t, "6.7: Drop", e)
	usage(0, 0, 0)
	hasVictims(t, "behind Drop", c, current)
	must(t, "6.8: Undo", b.Undo())
	usage(0, 316, 100)
	usage(current, 824, 0)
	hasVictims(t, "behind Undo", c, 0)
}

// TestVictimsHalf: twice Live just at Used, and one byte beyond it.
func TestVictimsHalf(t *testing.T) {
	for _, live := range []int{200, 256, 400} {
		for more := -2; more <= 2; more++ {
			_, c := layout{whole: 1024, segs: [][]int{{live, header - live + more}}, versions: 1, free: 1}.open(t)
			u, e := compact.Usage(c)
			must(t, "15.1: Usage", e)
			if 2*u[0].Live-u[0].Used != more {
				t.Fatalf("15.1: twice %d is not %d and %d", u[0].Live, u[0].Used, more)
			}
			if more <= 0 {
				hasVictims(t, fmt.Sprintf("%+v", u[0]), c, 0)
			} else {
				hasVictims(t, fmt.Sprintf("%+v", u[0]), c)
				runs(t, fmt.Sprintf("%+v", u[0]), c, 0, api.ErrVictim)
			}
		}
	}
}

// TestVictimsOrder: the least share first, whatever the bytes; of equal shares the smaller number.
func TestVictimsOrder(t *testing.T) {
	for _, row := range []struct {
		segs [][]int
		want []int
	}{
		{[][]int{{100, -884}, {20, -164}, {50, -434}, {60, -525}, {60, -523}}, []int{3, 0, 1, 2, 4}}, // a tenth: 100 of 1000, 20 of 200, 50 of 500; less; more
		{[][]int{{-20}, {}, {-900}, {16, -900}, {-30}}, []int{0, 1, 2, 4, 3}},                        // nothing live
		{[][]int{{400, -384}, {900}, {100, -800}, {200, -184}, {300, -283}}, []int{2, 0, 3}},         // a half; none; just no half
		{[][]int{{500}, {600}, {700}}, nil},
		{nil, nil},
	} {
		_, c := layout{whole: 1024, segs: row.segs, versions: 1, free: 2}.open(t)
		hasVictims(t, fmt.Sprint(row.segs), c, row.want...)
		told(t, fmt.Sprint(row.segs), c)
	}
}

// TestVictimsMany: many segments with shares of all sorts, some of them equal.
func TestVictimsMany(t *testing.T) {
	r := noise(2)
	equal := 0
	for range 12 {
		var segs [][]int
		for range 20 {
			n, share := 40*(1+r.IntN(6)), 2+r.IntN(4) // a half, a third ..
			segs = append(segs, []int{n, header - n*(share-1) + r.IntN(3)/2})
		}
		_, c := layout{whole: 2048, segs: segs, versions: 1, free: 2}.open(t)
		told(t, fmt.Sprint(segs), c)
		u, _ := compact.Usage(c)
		v, _ := compact.Victims(c)
		for i := 1; i < len(v); i++ {
			if u[v[i-1]].Fill == u[v[i]].Fill {
				equal++
			}
		}
	}
	if equal < 50 {
		t.Errorf("only %d equal shares", equal)
	}
}

// TestCurrent: the current segment is never a victim; it is the one with the greatest serial, whatever its number.
func TestCurrent(t *testing.T) {
	_, c := layout{whole: 1024, segs: [][]int{{-900}, {100, -300}}, versions: 1, free: 2}.open(t)
	log := c.Blobs().Log()
	held, moved := log.Tail().Current, log.Tail().Current+1
	hasVictims(t, "the page's segment is the current one", c, 0, 1)
	runs(t, "both", c, 2, api.OK)
	hasVictims(t, "what was moved, and the page, are in the current segment", c, held)
	must(t, "5.3: Next", log.Next())
	if log.Tail().Current != 0 {
		t.Fatalf("5.3: Next begins the segment %d", log.Tail().Current)
	}
	hasVictims(t, "nothing is in the current segment", c, held, moved)
	must(t, "5.3: Next", log.Next())
	hasVictims(t, "nothing is in two segments", c, 0, held, moved)
	told(t, "nothing is in two segments", c)
}

// TestPageIsDead: the segment with the page that holds may be a victim, if it is not the current one.
func TestPageIsDead(t *testing.T) {
	d, c := layout{whole: 1024, segs: [][]int{{500}}, versions: 1, free: 3}.open(t)
	held := c.Super().Page.Seg
	hasVictims(t, "the page in the current segment", c)
	must(t, "5.3: Next", c.Blobs().Log().Next())
	hasVictims(t, "the page in another one", c, held)
	was := factsOf(t, c)
	runs(t, "the page's segment", c, 1, api.OK)
	if c.Super().Page.Seg == held || c.Blobs().Log().Tail().Marks[held] != (api.Mark{}) {
		t.Errorf("15.4: the page is in %d still", held)
	}
	stays(t, "behind it", c, was)
	stays(t, "opened again", open(t, d), was)
}

// spoil turns a bit of a blob's frame.
func spoil(t *testing.T, c *catalog.Catalog, a api.Addr) {
	t.Helper()
	p, there := c.Blobs().Where(a)
	if !there {
		t.Fatal("6.5: Where: it is not there")
	}
	at := 2*sector + p.Seg*c.Super().Span*sector + p.At + 20
	must(t, "3.8: Rot", c.Blobs().Log().Disk().Rot(at/sector, at%sector, 4))
}

// TestSpoilt: the error of Live is the answer, whichever blob it is of; it is none where what is spoilt is not live.
func TestSpoilt(t *testing.T) {
	l := layout{whole: 1024, segs: [][]int{{100, -300}, {600, -40}}, versions: 2, free: 2}
	_, whole := l.open(t)
	live, e := whole.Live()
	must(t, "14.4: Live", e)
	for i := range live {
		d, c := l.open(t)
		spoil(t, c, live[i])
		_, want := c.Live()
		if want == api.OK {
			t.Fatalf("14.4: Live of a spoilt blob is OK")
		}
		untouched(t, "15.3: a spoilt blob", c, func() {
			refuses(t, "a spoilt blob", c, want)
			runs(t, "a spoilt blob", c, 0, want)
		})
		n, e := catalog.Open(d)
		must(t, "14.2: Open", e)
		_, want = n.Live()
		answers(t, "14.4: behind Open it is not there", want, api.ErrNone)
		untouched(t, "15.3: a blob that is not there", n, func() {
			refuses(t, "a blob that is not there", n, want)
			runs(t, "a blob that is not there", n, 0, want)
		})
	}
	d, c := l.open(t)
	for _, n := range []int{2 + 7, d.Sectors() - 1} { // what lies behind the used bytes, or in a free segment, means nothing
		must(t, "3.8: Rot", d.Rot(n, 127, 1))
	}
	hasVictims(t, "spoilt behind the used bytes", c, 0)
	told(t, "spoilt behind the used bytes", open(t, d))
}

// TestSpoiltDead: a dead frame that is spoilt is nobody's business.
func TestSpoiltDead(t *testing.T) {
	d, c := layout{whole: 1024, segs: [][]int{{100, -300}, {600, -40}}, versions: 2, free: 2}.open(t)
	was := factsOf(t, c)
	must(t, "3.8: Rot", d.Rot(2+2, 5, 4)) // byte 261 of segment 0
	if n, e := c.Blobs().Log().Check(0); n != header+100 || e != api.ErrCheck {
		t.Fatalf("5.7: Check = %d, %d", n, e)
	}
	hasVictims(t, "a spoilt frame that is dead", c, 0)
	told(t, "a spoilt frame that is dead", open(t, d))
	runs(t, "a spoilt frame that is dead", c, 1, api.OK)
	stays(t, "behind it", c, was)
	stays(t, "opened again", open(t, d), was)
}

// deaths are the ways in which a catalog dies, each with what its disk holds left as it is.
func deaths(t *testing.T) map[string]func(d *disk.Disk, c *catalog.Catalog) {
	return map[string]func(d *disk.Disk, c *catalog.Catalog){
		"a crash": func(d *disk.Disk, c *catalog.Catalog) { back(d) },
		"a commit of another": func(d *disk.Disk, c *catalog.Catalog) {
			must(t, "14.9: Commit", open(t, d).Commit())
		},
		"a slot that is spoilt": func(d *disk.Disk, c *catalog.Catalog) {
			must(t, "3.8: Rot", d.Rot(int(c.Super().Seq%2), 9, 1))
		},
		"a commit without power": func(d *disk.Disk, c *catalog.Catalog) {
			d.Fuse(0)
			answers(t, "14.9: Commit", c.Commit(), api.ErrPower)
			back(d)
		},
	}
}

// TestAskedOfTheDead: Usage and Victims answer as ever, and change nothing; Run says that it is dead, with victims and without.
func TestAskedOfTheDead(t *testing.T) {
	for name, die := range deaths(t) {
		for _, segs := range [][][]int{{{100, -200}, {300, -400}}, {{500}}} {
			d, c := layout{whole: 1024, segs: segs, versions: 2, free: 2}.open(t)
			u, _ := compact.Usage(c)
			v, _ := compact.Victims(c)
			die(d, c)
			if !c.Dead() {
				t.Fatalf("14.5: %s: it is not dead", name)
			}
			untouched(t, "15.2: "+name, c, func() {
				again, e := compact.Usage(c)
				answers(t, "15.2: "+name, e, api.OK)
				holds(t, "15.2: "+name, again, u)
				hasVictims(t, name, c, v...)
				runs(t, name, c, 0, api.ErrDead)
			})
			if e := c.Blobs().Begin(); e != api.OK {
				t.Errorf("15.3: %s: a change has begun", name)
			}
			untouched(t, "15.3: "+name, c, func() { runs(t, name+", a change begun", c, 0, api.ErrDead) })
			answers(t, "15.3: "+name+": the change goes on", c.Blobs().Undo(), api.OK)
		}
	}
}

// TestAskingChangesNothing: within a change and without one.
func TestAskingChangesNothing(t *testing.T) {
	_, c := layout{whole: 1024, segs: [][]int{{100, -200}, {300, -400}, {500}}, versions: 2, free: 3, spare: 60}.open(t)
	asked := func(what string) {
		t.Helper()
		for range 2 {
			untouched(t, "15.2: "+what, c, func() { told(t, what, c) })
		}
	}
	asked("at first")
	c.Blobs().Log().Reserve(2)
	asked("with a reserve")
	if n := heldBack(t, c); n != 2 {
		t.Errorf("15.2: %d segments are held back, want 2", n)
	}
	must(t, "6.8: Begin", c.Blobs().Begin())
	_, e := c.Blobs().Put(api.KindValue, make([]byte, 300))
	must(t, "6.3: Put", e)
	asked("within a change")
	answers(t, "15.2: the change goes on", c.Blobs().Begin(), api.ErrOpen)
	must(t, "6.8: Undo", c.Blobs().Undo())
	asked("behind a change")
}

// TestPowerGone: nothing can be read, so Live's error is the answer; the catalog is not known to be dead.
func TestPowerGone(t *testing.T) {
	d, c := layout{whole: 1024, segs: [][]int{{100, -200}}, versions: 1, free: 1}.open(t)
	off(d)
	refuses(t, "the power is gone", c, api.ErrPower)
	runs(t, "the power is gone", c, 0, api.ErrPower)
	if c.Dead() {
		t.Error("14.5: no commit was refused, and it is dead")
	}
	answers(t, "14.9: Commit", c.Commit(), api.ErrPower)
	runs(t, "the power is gone, and a commit was refused", c, 0, api.ErrDead)
	refuses(t, "the power is gone", c, api.ErrPower)
	back(d)
	hasVictims(t, "the power is back", c, 0)
	runs(t, "the power is back", c, 0, api.ErrDead)
}

// TestNoCatalog: no call panics.
func TestNoCatalog(t *testing.T) {
	for _, c := range []*catalog.Catalog{nil, {}} {
		refuses(t, "no catalog", c, api.ErrNone)
		runs(t, "no catalog", c, 0, api.ErrDead)
	}
}

// TestTwins: two blobs of one digest are two, each with its own frame.
func TestTwins(t *testing.T) {
	d, c := store(t, 8, 2048, 1)
	b := c.Blobs()
	lay := func(nth byte, fill int) api.Addr { // a segment with one blob, of one body whatever nth is
		must(t, "5.3: Next", b.Log().Next())
		_, e := b.Log().Append(api.Frame{Kind: api.KindValue, Body: append([]byte{nth}, "one body"...)})
		must(t, "5.4: Append", e)
		_, e = b.Put(api.KindValue, make([]byte, fill))
		must(t, "6.3: Put", e)
		return api.Addr{Sum: sumOf(api.KindValue, "one body"), Nth: nth}
	}
	one, two := lay(7, 60), lay(3, 50)
	must(t, "5.3: Next", b.Log().Next())
	tower := func(key string, value api.Addr, kids ...api.Kid) api.Kid {
		x := api.Tower{Key: []byte(key), Value: value, Kids: kids}
		a, e := node.Save(b, x)
		must(t, "7.5: Save", e)
		return api.Kid{Level: node.Height(x.Key) - 1, Key: x.Key, Count: node.Count(x), Addr: a, Label: node.Label(x)}
	}
	head := api.Tower{Head: true, Kids: []api.Kid{tower("c", one), tower("a", two)}}
	at, e := node.Save(b, head)
	must(t, "7.5: Save", e)
	_, e = c.Add(api.Tree{Addr: at, Count: 2, Label: rootOf(head)})
	must(t, "14.8: Add", e)
	c = open(t, d)
	told(t, "twins", c)
	v, _ := compact.Victims(c)
	was := factsOf(t, c)
	if !slices.Contains(v, 1) || !slices.Contains(v, 2) {
		t.Fatalf("15.2: Victims = %v", v)
	}
	runs(t, "twins", c, len(v), api.OK)
	for _, a := range []api.Addr{one, two} {
		if body, e := c.Blobs().Get(api.KindValue, a); string(body) != "one body" || e != api.OK {
			t.Errorf("15.4: Get = %q, %d", body, e)
		}
	}
	stays(t, "twins", c, was)
	stays(t, "twins, opened again", open(t, d), was)
	told(t, "twins", c)
}

// rootOf is the root label of a map with that head.
func rootOf(head api.Tower) api.Sum {
	var w codec.Writer
	w.Byte(api.TagRoot)
	w.Long(node.Count(head))
	w.Sum(node.Label(head))
	return sha256.Sum256(w.Bytes())
}
