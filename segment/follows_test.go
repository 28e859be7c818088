package segment_test

import (
	"bytes"
	"reflect"
	"slices"
	"testing"

	"witness/api"
	"witness/disk"
	"witness/segment"
)

// pair is a log and the model that it is held against, each over a disk of its own; tails are older ones, of which none is gone.
type pair struct {
	l     *segment.Log
	m     *model
	tails []api.Tail
}

func newPair(t *testing.T) *pair {
	t.Helper()
	_, l := fresh(t)
	return &pair{l: l, m: newModel(newDisk(t))}
}

// both does something to both disks.
func (p *pair) both(do func(d *disk.Disk)) {
	do(p.l.Disk())
	do(p.m.d)
}

// holds compares all that can be asked.
func (p *pair) holds(t *testing.T, what string) {
	t.Helper()
	tails(t, what+": 5.10", p.l, p.m.tail())
	if !slices.Equal(p.l.Disk().Pending(), p.m.d.Pending()) || !bytes.Equal(p.l.Disk().Image(), p.m.d.Image()) || p.l.Disk().Off() != p.m.d.Off() {
		t.Errorf("%s: 5.11: the disk is another: writes to %v, want %v", what, p.l.Disk().Pending(), p.m.d.Pending())
	}
	for _, n := range []int{-1, 0, 1, 20, 500, 995, 996} {
		if p.l.Fits(n) != p.m.fits(n) {
			t.Errorf("%s: 5.5: Fits(%d) = %v", what, n, !p.m.fits(n))
		}
	}
	for seg := -1; seg <= segments; seg++ {
		n, e := p.m.check(seg)
		checks(t, what+": 5.7", p.l, seg, n, e)
		want, _, _ := p.m.frames(seg)
		gives(t, what+": 5.8", p.l, seg, want...)
		for _, s := range want {
			reads(t, what+": 5.6", p.l, s.place, s.frame)
		}
	}
}

// readsAt asks for what lies at some place, whether there is a frame or not.
func (p *pair) readsAt(t *testing.T, place api.Place) {
	t.Helper()
	want, e := p.m.read(place)
	if got, errno := p.l.Read(place); errno != e || !sameFrame(got, want) {
		t.Errorf("5.6: Read(%v) = %v, %d, want %v, %d", place, got, errno, want, e)
	}
}

// step does one thing to both, and answers its name.
func (p *pair) step(t *testing.T, n *noise) string {
	t.Helper()
	seg := n.below(segments+2) - 1
	switch n.below(20) {
	case 0:
		answers(t, "5.3: Next", p.l.Next(), p.m.next())
		return "Next"
	case 1, 2:
		answers(t, "5.9: Free", p.l.Free(seg), p.m.free(seg))
		return "Free"
	case 3:
		p.l.Settle()
		clear(p.m.held)
		return "Settle"
	case 4:
		reserve := n.below(4) - 1
		p.l.Reserve(reserve)
		p.m.reserve = max(reserve, 0)
		return "Reserve"
	case 5:
		p.tails = append(p.tails, p.l.Tail())
		return "Tail"
	case 6:
		if len(p.tails) > 0 {
			tail := p.tails[n.below(len(p.tails))]
			answers(t, "5.10: Rewind", p.l.Rewind(tail), api.OK)
			p.m.rewind(tail)
		}
		return "Rewind"
	case 7:
		p.both(func(d *disk.Disk) { d.Flush() })
		return "Flush"
	case 8:
		fuse := n.below(12)
		p.both(func(d *disk.Disk) { d.Fuse(fuse) })
		return "Fuse"
	case 9:
		c := n.crash(len(p.m.d.Pending()))
		p.both(func(d *disk.Disk) { d.Crash(c) })
		return "Crash"
	case 10:
		sector, at, mask := n.below(2+segments*span), n.below(size), byte(1)<<n.below(8)
		p.both(func(d *disk.Disk) { d.Rot(sector, at, mask) })
		return "Rot"
	case 11:
		p.readsAt(t, api.Place{Seg: seg, At: 10 + n.below(100), Len: 10 + n.below(100)})
		return "Read"
	}
	f := n.frame()
	want, e := p.m.append(f)
	if got, errno := p.l.Append(f); got != want || errno != e {
		t.Errorf("5.4: Append of %d bytes = %v, %d, want %v, %d", len(f.Body), got, errno, want, e)
	}
	return "Append"
}

func TestAgainstTheModel(t *testing.T) {
	for seed := range 120 {
		n := &noise{uint64(seed)}
		p := newPair(t)
		for range 80 {
			what := p.step(t, n)
			p.holds(t, what)
			if t.Failed() {
				t.Fatalf("seed %d, at %s", seed, what)
			}
			if p.m.d.Off() && n.below(3) == 0 {
				c := n.crash(len(p.m.d.Pending()))
				p.both(func(d *disk.Disk) { d.Crash(c) })
			}
		}
	}
}

// eachCrash hands on crashes of a cache of so many writes: every Keep, every Torn, and Ats at both ends and between.
func eachCrash(writes int, take func(c api.Crash)) {
	for bits := range 1 << writes {
		keep := make([]bool, writes)
		for i := range keep {
			keep[i] = bits>>i&1 == 1
		}
		take(api.Crash{Keep: keep, Torn: -1})
		for tear := range writes {
			for _, at := range []int{1, 15, 16, 31, 40, 64, 100, 127} {
				take(api.Crash{Keep: keep, Torn: tear, At: at})
			}
		}
	}
}

// TestUsedBytesOutlastACrash appends behind durable frames, and lets a crash keep and tear whatever it likes of that.
func TestUsedBytesOutlastACrash(t *testing.T) {
	first := []api.Frame{body(60), x, api.Frame{Kind: 5}}
	second := [][]api.Frame{
		{x},
		{body(5), body(6), body(7), body(8)},
		{body(300)},
		{body(900)},          // over the segment's end: into the next one
		{body(900), x},       // in which a frame goes on
		{body(250), x},       // a seam, and behind it
		{body(9), body(995)}, // into the segment, and over its end
	}
	for _, more := range second {
		d, l := fresh(t)
		var want []stored
		for _, f := range first {
			place, e := l.Append(f)
			answers(t, "5.4", e, api.OK)
			want = append(want, stored{place, f})
		}
		answers(t, "3.4", d.Flush(), api.OK)
		moment := l.Tail()
		used := durableOf(d, 0)[:moment.Marks[0].Used]
		for _, f := range more {
			_, e := l.Append(f)
			answers(t, "5.4", e, api.OK)
		}
		writes := min(len(d.Pending()), 7)
		eachCrash(writes, func(c api.Crash) {
			broken := d.Copy()
			broken.Crash(c)
			if got := durableOf(broken, 0)[:len(used)]; !bytes.Equal(got, used) {
				t.Fatalf("5.12: %v of %v: used bytes have changed to %x", c, d.Pending(), got)
			}
			again := open(t, broken, moment.Serial, moment.Marks...)
			gives(t, "5.13", again, 0, want...)
			checks(t, "5.13", again, 0, len(used), api.OK)
			for _, s := range want {
				reads(t, "5.13", again, s.place, s.frame)
			}
			appends(t, "5.4: behind the crash", again, x, api.Place{Seg: 0, At: len(used), Len: 15})
			gives(t, "5.13", again, 0, append(slices.Clone(want), stored{api.Place{Seg: 0, At: len(used), Len: 15}, x})...)
		})
	}
}

// watched is a segment's bytes that are to stay, as they read and as they are durable, under a serial.
type watched struct {
	serial  uint64
	bytes   []byte
	durable []bool
}

// watch remembers what is used now; it is durable where no older write stands in the cache that a crash may keep.
func watch(t *testing.T, l *segment.Log) []watched {
	t.Helper()
	var w []watched
	pending := l.Disk().Pending()
	for seg, mark := range l.Tail().Marks {
		b := bytesOf(t, l.Disk(), seg)[:mark.Used]
		durable := make([]bool, len(b))
		for i := range b {
			durable[i] = !slices.Contains(pending, 2+seg*span+i/size)
		}
		w = append(w, watched{mark.Serial, b, durable})
	}
	return w
}

// stay holds what was watched against what is there, of the segments that are in use under the same serial still.
func stay(t *testing.T, what string, l *segment.Log, then []watched, crashed bool) {
	t.Helper()
	for seg, mark := range l.Tail().Marks {
		w := then[seg]
		if mark.Serial != w.serial || mark.Used < len(w.bytes) {
			continue
		}
		lasting, now := durableOf(l.Disk(), seg), bytesOf(t, l.Disk(), seg)
		for i := range w.bytes {
			if !crashed && now[i] != w.bytes[i] {
				t.Fatalf("5.12: %s: byte %d of segment %d was %d and is %d", what, i, seg, w.bytes[i], now[i])
			}
			if w.durable[i] && lasting[i] != w.bytes[i] {
				t.Fatalf("5.12: %s: byte %d of segment %d was durable, and is another", what, i, seg)
			}
		}
	}
}

// TestWhatIsUsedStays does whatever can be done, with fuses and crashes, and looks at what was used a while ago.
func TestWhatIsUsedStays(t *testing.T) {
	for seed := range 150 {
		n := &noise{uint64(seed)}
		d, l := fresh(t)
		then, crashed := watch(t, l), false
		for i := range 60 {
			before := l.Tail()
			d.Fuse(n.below(30) - 1)
			switch n.below(10) {
			case 0:
				l.Free(n.below(segments))
			case 1:
				l.Settle()
			case 2:
				l.Next()
			case 3:
				d.Flush()
			case 4: // back by one step, or by nothing
				l.Append(n.frame())
				l.Rewind(before)
			default:
				l.Append(n.frame())
			}
			if d.Off() || n.below(8) == 0 {
				d.Crash(n.crash(len(d.Pending())))
				crashed = true
			}
			d.Fuse(-1)
			stay(t, "a step", l, then, crashed)
			if i%7 == 0 {
				then, crashed = watch(t, l), false
			}
		}
	}
}

// TestWhatWasAppendedIsFound: by this log as long as it is used, and behind a flush by one that is opened anew behind any crash.
func TestWhatWasAppendedIsFound(t *testing.T) {
	for seed := range 60 {
		n := &noise{uint64(seed)}
		d, l := fresh(t)
		var all [segments][]stored
		finds := func(what string, l *segment.Log) {
			t.Helper()
			for seg, want := range all {
				gives(t, what, l, seg, want...)
				for i, s := range want {
					reads(t, what, l, s.place, s.frame)
					if i > 0 && s.place.At != want[i-1].place.At+want[i-1].place.Len || i == 0 && s.place.At != 16 {
						t.Errorf("5.14: %v lies behind %v", s.place, want[max(i-1, 0)].place)
					}
				}
				if len(want) > 0 {
					end := want[len(want)-1].place
					checks(t, what, l, seg, end.At+end.Len, api.OK)
				}
			}
		}
		for range 40 {
			f := n.frame()
			before := l.Tail()
			place, e := l.Append(f)
			if e == api.ErrFull {
				free := n.below(segments)
				if l.Free(free) == api.OK {
					all[free] = nil
					l.Settle()
				}
				continue
			}
			answers(t, "5.4", e, api.OK)
			if before.Marks[place.Seg].Serial == 0 {
				all[place.Seg] = nil
			}
			all[place.Seg] = append(all[place.Seg], stored{place, f})
			finds("5.13", l)
			if n.below(4) == 0 {
				answers(t, "3.4", d.Flush(), api.OK)
				tail := l.Tail()
				broken := d.Copy()
				later := open(t, broken, tail.Serial, tail.Marks...)
				for range n.below(4) {
					later.Append(n.frame())
				}
				broken.Crash(n.crash(len(broken.Pending())))
				finds("5.13: behind a flush and a crash", open(t, broken, tail.Serial, tail.Marks...))
			}
			if t.Failed() {
				t.Fatalf("seed %d", seed)
			}
		}
	}
}

func TestPlacesAreUnlike(t *testing.T) {
	_, l := fresh(t)
	seen := map[api.Place]bool{}
	for i := range 200 {
		place, e := l.Append(body(i % 9))
		if e != api.OK {
			break
		}
		if seen[place] {
			t.Errorf("5.14: %v was given out twice", place)
		}
		seen[place] = true
	}
	if len(seen) < 100 {
		t.Errorf("5.14: there was room for %d frames alone", len(seen))
	}
}

// view is all that a log answers without its disk being written to.
type view struct {
	tail   api.Tail
	counts []int
	errnos []api.Errno
	frames [][]stored
	fits   []bool
}

func viewOf(l *segment.Log) view {
	v := view{tail: l.Tail()}
	for seg := -1; seg <= segments; seg++ {
		n, e := l.Check(seg)
		v.counts, v.errnos = append(v.counts, n), append(v.errnos, e)
		v.frames = append(v.frames, framesOf(l, seg))
	}
	for n := range whole {
		v.fits = append(v.fits, l.Fits(n))
	}
	return v
}

// TestRewindToAnOlderTail: the log answers as it did, if what it had then was not given out anew.
func TestRewindToAnOlderTail(t *testing.T) {
	for seed := range 100 {
		n := &noise{uint64(seed)}
		d, l := fresh(t)
		for range n.below(12) {
			l.Append(n.frame())
			l.Free(n.below(20))
			l.Settle()
		}
		l.Free(n.below(8))
		then := viewOf(l)
		twin := open(t, d.Copy(), 0)
		answers(t, "5.10", twin.Rewind(l.Tail()), api.OK)
		fuse := n.below(40)
		d.Fuse(fuse)
		for range n.below(15) {
			l.Append(n.frame())
			l.Free(n.below(8)) // what is freed now is held up to the Rewind
		}
		d.Fuse(-1)
		if d.Off() {
			d.Crash(api.Crash{Keep: slices.Repeat([]bool{true}, len(d.Pending())), Torn: -1})
		}
		answers(t, "5.10", l.Rewind(then.tail), api.OK)
		if now := viewOf(l); !reflect.DeepEqual(now, then) {
			t.Fatalf("5.15: seed %d: %v, and it was %v", seed, now.tail, then.tail)
		}
		for range 6 {
			f := n.frame()
			got, e := l.Append(f)
			want, errno := twin.Append(f)
			if got != want || e != errno {
				t.Fatalf("5.15: seed %d: Append = %v, %d, and it would have been %v, %d", seed, got, e, want, errno)
			}
		}
	}
}
