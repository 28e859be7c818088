package segment_test

import (
	"bytes"
	"math"
	"slices"
	"testing"

	"witness/api"
	"witness/disk"
	"witness/segment"
)

func waits(t *testing.T, what string, d *disk.Disk, want ...int) {
	t.Helper()
	if got := d.Pending(); !slices.Equal(got, want) {
		t.Errorf("%s: writes to the sectors %v, want %v", what, got, want)
	}
}

func TestNext(t *testing.T) {
	d, l := fresh(t)
	for seg := range segments {
		for at := range whole {
			turn(t, d, seg, at) // what lies there means nothing
		}
	}
	for seg := range segments {
		answers(t, "5.3: Next", l.Next(), api.OK)
		serial := uint64(seg + 1)
		tail := l.Tail()
		if tail.Serial != serial || tail.Current != seg || tail.Marks[seg] != (api.Mark{Serial: serial, Used: 16}) {
			t.Errorf("5.3: Tail = %v", tail)
		}
		want := cat(headerOf(serial), make([]byte, size-16), bytes.Repeat([]byte{1}, whole-size))
		if got := bytesOf(t, d, seg); !bytes.Equal(got, want) {
			t.Errorf("5.3: segment %d begins with %x", seg, got[:size])
		}
		checks(t, "5.3", l, seg, 16, api.OK)
	}
	waits(t, "5.3: one write each", d, 2, 2+span, 2+2*span, 2+3*span)
	before := l.Tail()
	answers(t, "5.3: nothing is free", l.Next(), api.ErrFull)
	tails(t, "5.3: nothing is free", l, before)
}

func TestNextTakesTheLeastNumber(t *testing.T) {
	d := newDisk(t)
	l := open(t, d, 9, api.Mark{Serial: 4, Used: 16}, api.Mark{}, api.Mark{Serial: 7, Used: 100})
	answers(t, "5.3", l.Next(), api.OK)
	tails(t, "5.3", l, tailOf(10, 1, api.Mark{Serial: 4, Used: 16}, api.Mark{Serial: 10, Used: 16}, api.Mark{Serial: 7, Used: 100}))
	answers(t, "5.3", l.Next(), api.OK)
	tails(t, "5.3", l, tailOf(11, 3, api.Mark{Serial: 4, Used: 16}, api.Mark{Serial: 10, Used: 16}, api.Mark{Serial: 7, Used: 100}, api.Mark{Serial: 11, Used: 16}))
	waits(t, "5.3", d, 2+span, 2+3*span)
}

func TestNextAtTheLastSerial(t *testing.T) {
	d := newDisk(t)
	l := open(t, d, last)
	answers(t, "5.3: the last serial", l.Next(), api.ErrLast)
	refuses(t, "5.4: the last serial", l, x, api.ErrLast)
	tails(t, "5.3", l, tailOf(last, -1))
	l.Reserve(9)
	answers(t, "5.3: the last serial, and nothing to give out", l.Next(), api.ErrLast)
	off(t, d)
	answers(t, "5.3: the last serial, without power", l.Next(), api.ErrLast)
	d.Crash(api.Crash{})

	l = open(t, d, last-1)
	answers(t, "5.3: the last but one", l.Next(), api.OK)
	tails(t, "5.3", l, tailOf(last, 0, api.Mark{Serial: last, Used: 16}))
	answers(t, "5.3", l.Next(), api.ErrLast)
	appends(t, "5.4: into the segment with the last serial", l, x, api.Place{Seg: 0, At: 16, Len: 15})
	appends(t, "5.4", l, body(980), api.Place{Seg: 0, At: 31, Len: 993})
	refuses(t, "5.4: it is full", l, x, api.ErrLast)
	checks(t, "5.7", l, 0, whole, api.OK)
}

func TestNextWithHeldSegments(t *testing.T) {
	_, l := fresh(t)
	for range segments {
		answers(t, "5.3", l.Next(), api.OK)
	}
	answers(t, "5.9", l.Free(2), api.OK)
	answers(t, "5.9", l.Free(0), api.OK)
	answers(t, "5.3: both free ones are held", l.Next(), api.ErrFull)
	before := l.Tail()
	appends(t, "5.4: the current one has room", l, x, api.Place{Seg: 3, At: 16, Len: 15})
	answers(t, "5.10", l.Rewind(before), api.OK)
	l.Settle()
	answers(t, "5.3: none is held any more", l.Next(), api.OK)
	answers(t, "5.9", l.Free(3), api.OK)
	tail := l.Tail()
	if tail.Current != 0 || !slices.Equal(tail.Held, []bool{false, false, false, true}) {
		t.Errorf("5.3: Tail = %v", tail)
	}
	answers(t, "5.3: the one that is not held", l.Next(), api.OK)
	if tail := l.Tail(); tail.Current != 2 || !tail.Held[3] {
		t.Errorf("5.3: Tail = %v", tail)
	}
}

func TestReserve(t *testing.T) {
	d, l := fresh(t)
	l.Reserve(3)
	answers(t, "5.3: four are free, three kept back", l.Next(), api.OK)
	answers(t, "5.3: three are free, three kept back", l.Next(), api.ErrFull)
	l.Reserve(2)
	answers(t, "5.3: two are kept back", l.Next(), api.OK)
	answers(t, "5.3: two are kept back", l.Next(), api.ErrFull)
	l.Reserve(-9)
	answers(t, "5.9: none is kept back", l.Next(), api.OK)
	answers(t, "5.9: none is kept back", l.Next(), api.OK)
	answers(t, "5.9: none is left", l.Next(), api.ErrFull)
	waits(t, "5.3: what is refused writes nothing", d, 2, 2+span, 2+2*span, 2+3*span)
	for _, n := range []int{math.MinInt, -1, 0, 1, math.MaxInt} {
		_, l := fresh(t)
		l.Reserve(n)
		count := 0
		for l.Next() == api.OK {
			count++
		}
		if want := segments - min(max(n, 0), segments); count != want {
			t.Errorf("5.9: with the reserve %d, %d segments were given out, want %d", n, count, want)
		}
	}
}

// TestReserveCountsWhatMayBeGivenOut: a held segment is not one that is kept back.
func TestReserveCountsWhatMayBeGivenOut(t *testing.T) {
	_, l := fresh(t)
	for range 3 {
		answers(t, "5.3", l.Next(), api.OK)
	}
	answers(t, "5.9", l.Free(0), api.OK)
	l.Reserve(1)
	answers(t, "5.3: one is free that is not held", l.Next(), api.ErrFull)
	l.Settle()
	answers(t, "5.3: two are", l.Next(), api.OK)
	answers(t, "5.3: one is", l.Next(), api.ErrFull)
	tail := l.Tail()
	answers(t, "5.10", l.Rewind(tail), api.OK)
	answers(t, "5.10: the reserve stays", l.Next(), api.ErrFull)
	l.Reserve(0)
	answers(t, "5.3: none is kept back", l.Next(), api.OK)
}

func TestOpenHasNoReserve(t *testing.T) {
	d, l := fresh(t)
	l.Reserve(4)
	answers(t, "5.3", l.Next(), api.ErrFull)
	answers(t, "5.2: another log's reserve is its own", open(t, d, 0).Next(), api.OK)
}

func TestFits(t *testing.T) {
	_, l := fresh(t)
	for _, n := range []int{0, 1, -1} {
		if l.Fits(n) {
			t.Errorf("5.5: Fits(%d), and there is no current segment", n)
		}
	}
	fits := func(what string, n int, want bool) {
		t.Helper()
		if l.Fits(n) != want {
			t.Errorf("5.5: %s: Fits(%d) = %v", what, n, !want)
		}
	}
	answers(t, "5.3", l.Next(), api.OK)
	fits("an empty segment", 995, true)
	fits("an empty segment", 996, false)
	appends(t, "5.4", l, x, api.Place{Seg: 0, At: 16, Len: 15})
	for _, n := range []int{math.MinInt, -13, -1, 981, 1000, math.MaxInt, math.MaxInt - 12, math.MaxInt - 13, math.MaxInt - 44} {
		fits("31 bytes are used", n, false)
	}
	for _, n := range []int{0, 1, 979, 980} {
		fits("31 bytes are used", n, true)
	}
	appends(t, "5.4", l, body(967), api.Place{Seg: 0, At: 31, Len: 980})
	fits("13 bytes are left", 0, true)
	fits("13 bytes are left", 1, false)
	appends(t, "5.4", l, api.Frame{Kind: 5}, api.Place{Seg: 0, At: 1011, Len: 13})
	fits("nothing is left", 0, false)

	l = open(t, newDisk(t), 1, api.Mark{Serial: 1, Used: 1012})
	fits("12 bytes are left", 0, false)
	fits("12 bytes are left", -1, false)
}

// TestAppend is the chapter's examples 2, 3 and 4.
func TestAppend(t *testing.T) {
	d, l := fresh(t)
	appends(t, "5.4: the first", l, x, api.Place{Seg: 0, At: 16, Len: 15})
	waits(t, "5.4: the header; header and frame", d, 2, 2)
	tails(t, "5.4", l, tailOf(1, 0, api.Mark{Serial: 1, Used: 31}))
	if got := bytesOf(t, d, 0); !bytes.Equal(got, filled(whole, headerOf(1), frameOf(1, 16, x))) {
		t.Errorf("5.4: %x", got[:size])
	}
	appends(t, "5.4: it just fits", l, body(980), api.Place{Seg: 0, At: 31, Len: 993})
	waits(t, "5.4: each sector once, from the lowest on", d, 2, 2, 2, 3, 4, 5, 6, 7, 8, 9)
	tails(t, "5.4", l, tailOf(1, 0, api.Mark{Serial: 1, Used: 1024}))
	if got := bytesOf(t, d, 0); !bytes.Equal(got, cat(headerOf(1), frameOf(1, 16, x), frameOf(1, 31, body(980)))) {
		t.Errorf("5.4: %x", got)
	}
	appends(t, "5.4: no byte is left", l, x, api.Place{Seg: 1, At: 16, Len: 15})
	tails(t, "5.4", l, tailOf(2, 1, api.Mark{Serial: 1, Used: 1024}, api.Mark{Serial: 2, Used: 31}))
	refuses(t, "5.4: a byte too long", l, body(996), api.ErrFull)
	appends(t, "5.4: a whole segment", l, body(995), api.Place{Seg: 2, At: 16, Len: 1008})
	if got := bytesOf(t, d, 2); !bytes.Equal(got, cat(headerOf(3), frameOf(3, 16, body(995)))) {
		t.Errorf("5.4: %x", got)
	}
	if got := bytesOf(t, d, 1); !bytes.Equal(got, filled(whole, headerOf(2), frameOf(2, 16, x))) {
		t.Errorf("5.4: what was left of segment 1 is other than it was: %x", got[:size])
	}
	tails(t, "5.4", l, tailOf(3, 2, api.Mark{Serial: 1, Used: 1024}, api.Mark{Serial: 2, Used: 31}, api.Mark{Serial: 3, Used: 1024}))
}

func TestAppendOfWrongFrames(t *testing.T) {
	d, l := fresh(t)
	for _, kind := range []byte{0, 6, 7, 128, 255} {
		for _, n := range []int{0, 2, 995, 996, 5000} {
			refuses(t, "5.4: a kind that is none", l, api.Frame{Kind: kind, Body: make([]byte, n)}, api.ErrKind)
		}
	}
	for _, n := range []int{996, 997, 1008, 1024, 100000} {
		refuses(t, "5.4: too long", l, body(n), api.ErrFull)
	}
	off(t, d)
	refuses(t, "5.4: the kind is asked first", l, api.Frame{Kind: 6}, api.ErrKind)
	refuses(t, "5.4: then the length", l, body(996), api.ErrFull)
	refuses(t, "5.4: then the disk", l, body(995), api.ErrPower)
	if s := d.Stats(); s.Writes != 0 {
		t.Errorf("5.4: %d writes, of frames that were refused", s.Writes)
	}
	end := open(t, newDisk(t), last)
	refuses(t, "5.4: the length is asked ahead of Next", end, body(996), api.ErrFull)
	refuses(t, "5.4: the kind is asked ahead of Next", end, api.Frame{}, api.ErrKind)
}

func TestAppendOfEachKind(t *testing.T) {
	_, l := fresh(t)
	at := 16
	for kind := byte(1); kind <= 5; kind++ {
		for _, b := range [][]byte{nil, {}, {kind}} {
			f := api.Frame{Kind: kind, Body: b}
			place := api.Place{Seg: 0, At: at, Len: 13 + len(b)}
			appends(t, "5.4", l, f, place)
			reads(t, "5.13", l, place, f)
			at += place.Len
		}
	}
}

// TestAppendOverSeams writes frames that end just ahead of, at, and behind the end of a sector, and one behind them.
func TestAppendOverSeams(t *testing.T) {
	for n := size - 16 - 13 - 20; n <= 3*size; n++ {
		d, l := fresh(t)
		d.Write(3, bytes.Repeat([]byte{'?'}, size)) // what lies behind the used bytes goes
		f, g := body(n), api.Frame{Kind: 3, Body: bytes.Repeat([]byte{'g'}, 20)}
		end := 16 + 13 + n
		appends(t, "5.4", l, f, api.Place{Seg: 0, At: 16, Len: 13 + n})
		one := filled(whole, headerOf(1), frameOf(1, 16, f))
		if end <= size {
			copy(one[size:], bytes.Repeat([]byte{'?'}, size)) // a sector that the frame does not touch
		}
		if got := bytesOf(t, d, 0); !bytes.Equal(got, one) {
			t.Fatalf("5.4: a body of %d bytes: %x", n, got)
		}
		d.Flush()
		appends(t, "5.4", l, g, api.Place{Seg: 0, At: end, Len: 33})
		var touched []int
		for s := end / size; s*size < end+33; s++ {
			touched = append(touched, 2+s)
		}
		waits(t, "5.4", d, touched...)
		two := filled(whole, headerOf(1), frameOf(1, 16, f), frameOf(1, end, g))
		if end+33 <= size {
			copy(two[size:], bytes.Repeat([]byte{'?'}, size))
		}
		if got := bytesOf(t, d, 0); !bytes.Equal(got, two) {
			t.Fatalf("5.4: a body of %d bytes and one behind it: %x", n, got)
		}
		gives(t, "5.13", l, 0, stored{api.Place{Seg: 0, At: 16, Len: 13 + n}, f}, stored{api.Place{Seg: 0, At: end, Len: 33}, g})
	}
}

// TestAppendReadsWhatIsUsed: bytes that have rotted are written again as they are.
func TestAppendReadsWhatIsUsed(t *testing.T) {
	d, l := fresh(t)
	appends(t, "5.4", l, x, api.Place{Seg: 0, At: 16, Len: 15})
	turn(t, d, 0, 3)
	turn(t, d, 0, 30)
	turn(t, d, 0, 31) // behind what is used
	turn(t, d, 0, 100)
	rotten := bytesOf(t, d, 0)[:31]
	appends(t, "5.4", l, x, api.Place{Seg: 0, At: 31, Len: 15})
	if got := bytesOf(t, d, 0); !bytes.Equal(got, filled(whole, rotten, frameOf(1, 31, x))) {
		t.Errorf("5.4: %x", got[:size])
	}
}

// TestAppendBehindOpen: what is used of a segment is what the marks say, whatever lies behind.
func TestAppendBehindOpen(t *testing.T) {
	d, l := three(t)
	again := open(t, d, 7, api.Mark{Serial: 1, Used: 1024}, api.Mark{Serial: 2, Used: 16})
	appends(t, "5.4", again, body(3), api.Place{Seg: 1, At: 16, Len: 16})
	if got := bytesOf(t, d, 1); !bytes.Equal(got, filled(whole, headerOf(2), frameOf(2, 16, body(3)))) {
		t.Errorf("5.4: %x", got[:size])
	}
	appends(t, "5.4: the next serial", again, body(995), api.Place{Seg: 2, At: 16, Len: 1008})
	if tail := again.Tail(); tail.Serial != 8 || tail.Marks[2].Serial != 8 {
		t.Errorf("5.4: Tail = %v", tail)
	}
	misses(t, "5.6: another log's longer frame lies there", l, api.Place{Seg: 1, At: 16, Len: 15}, api.ErrShort)
}

func TestAppendIntoAFullDisk(t *testing.T) {
	d, l := fresh(t)
	for seg := range segments {
		appends(t, "5.4", l, body(994), api.Place{Seg: seg, At: 16, Len: 1007})
	}
	d.Flush()
	refuses(t, "5.4: nothing is free", l, api.Frame{Kind: 1}, api.ErrFull)
	answers(t, "5.9", l.Free(1), api.OK)
	refuses(t, "5.4: what is free is held", l, api.Frame{Kind: 1}, api.ErrFull)
	l.Settle()
	l.Reserve(1)
	refuses(t, "5.4: what is free is kept back", l, api.Frame{Kind: 1}, api.ErrFull)
	waits(t, "5.4: what is refused writes nothing", d)
	l.Reserve(0)
	appends(t, "5.4", l, api.Frame{Kind: 1}, api.Place{Seg: 1, At: 16, Len: 13})
	waits(t, "5.4", d, 2+span, 2+span)
}

// TestRefusedWrites lets the power go at each write of a call in turn.
func TestRefusedWrites(t *testing.T) {
	begin := map[string]func(l *segment.Log){
		"no segment in use":     func(l *segment.Log) {},
		"an empty segment":      func(l *segment.Log) { l.Next() },
		"a frame":               func(l *segment.Log) { l.Append(x) },
		"a full segment":        func(l *segment.Log) { l.Append(body(995)) },
		"a freed, held segment": func(l *segment.Log) { l.Append(x); l.Next(); l.Free(0) },
		"a settled segment":     func(l *segment.Log) { l.Append(body(995)); l.Append(body(995)); l.Free(0); l.Settle() },
	}
	for name, prepare := range begin {
		for _, n := range []int{0, 100, 300, 900, 995} {
			for fuse := 0; ; fuse++ {
				d, l := fresh(t)
				prepare(l)
				before := l.Tail()
				d.Fuse(fuse)
				p, e := l.Append(body(n))
				if e == api.OK {
					break
				}
				if e != api.ErrPower || p != (api.Place{}) {
					t.Errorf("5.4: %s, %d bytes, fuse %d: %v, %d", name, n, fuse, p, e)
				}
				tails(t, "5.4: "+name, l, before)
				refuses(t, "5.4: the power is gone", l, body(n), api.ErrPower)
				answers(t, "5.3: the power is gone", l.Next(), api.ErrPower)
				tails(t, "5.3: "+name, l, before)
				d.Crash(api.Crash{Keep: []bool{true, true, true}, Torn: fuse - 1, At: 20})
				tails(t, "5.11: a crash", l, before)
				p, e = l.Append(body(n))
				if e != api.OK {
					t.Errorf("5.4: %s, %d bytes, behind a crash at write %d: %d", name, n, fuse, e)
				}
				reads(t, "5.13: behind a crash", l, p, body(n))
			}
		}
	}
}

func TestRefusedNext(t *testing.T) {
	d, l := fresh(t)
	appends(t, "5.4", l, x, api.Place{Seg: 0, At: 16, Len: 15})
	before := l.Tail()
	d.Fuse(0)
	answers(t, "5.3", l.Next(), api.ErrPower)
	tails(t, "5.3", l, before)
	d.Crash(api.Crash{Torn: -1})
	answers(t, "5.3", l.Next(), api.OK)
	tails(t, "5.3", l, tailOf(2, 1, api.Mark{Serial: 1, Used: 31}, api.Mark{Serial: 2, Used: 16}))
}
