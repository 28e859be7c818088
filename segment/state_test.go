package segment_test

import (
	"math"
	"slices"
	"testing"

	"witness/api"
	"witness/segment"
)

// TestFree is the chapter's examples 6 and 7.
func TestFree(t *testing.T) {
	d, l := three(t)
	appends(t, "5.4", l, body(995), api.Place{Seg: 2, At: 16, Len: 1008})
	ahead := l.Tail()
	d.Flush()
	for _, seg := range []int{2, 3, 4, -1, math.MaxInt, math.MinInt} {
		answers(t, "5.9: Free of the current one, a free one, none", l.Free(seg), api.ErrSeg)
		tails(t, "5.9: Free that is refused", l, ahead)
	}
	answers(t, "5.9", l.Free(0), api.OK)
	want := tailOf(3, 2, api.Mark{}, api.Mark{Serial: 2, Used: 31}, api.Mark{Serial: 3, Used: 1024})
	want.Held[0] = true
	tails(t, "5.9", l, want)
	answers(t, "5.9: it is free already", l.Free(0), api.ErrSeg)
	tails(t, "5.9", l, want)
	misses(t, "5.6: a freed segment", l, api.Place{Seg: 0, At: 16, Len: 15}, api.ErrPlace)
	checks(t, "5.7: a freed segment", l, 0, 0, api.OK)
	gives(t, "5.8: a freed segment", l, 0)
	waits(t, "5.11: Free writes nothing", d)

	answers(t, "5.3", l.Next(), api.OK)
	want.Marks[3], want.Serial, want.Current = api.Mark{Serial: 4, Used: 16}, 4, 3
	tails(t, "5.3: segment 3, because 0 is held", l, want)
	answers(t, "5.3: 0 is held", l.Next(), api.ErrFull)
	l.Settle()
	want.Held[0] = false
	tails(t, "5.9: Settle", l, want)
	answers(t, "5.3", l.Next(), api.OK)
	want.Marks[0], want.Serial, want.Current = api.Mark{Serial: 5, Used: 16}, 5, 0
	tails(t, "5.3", l, want)
	l.Settle()
	tails(t, "5.9: Settle where nothing is held", l, want)

	answers(t, "5.10: Rewind", l.Rewind(ahead), api.OK)
	tails(t, "5.10: Rewind", l, ahead)
	checks(t, "5.7: its bytes were written over", l, 0, 0, api.ErrMarks)
	checks(t, "5.7", l, 2, 1024, api.OK)
	bad := l.Tail()
	bad.Held = bad.Held[:3]
	answers(t, "5.10: Held is too short", l.Rewind(bad), api.ErrMarks)
	bad = l.Tail()
	bad.Current = 3
	answers(t, "5.10: another current segment", l.Rewind(bad), api.ErrMarks)
	tails(t, "5.10: what is refused changes nothing", l, ahead)
}

// TestFreeByTheSerials: which one is the current segment hangs on the serials, not on the numbers.
func TestFreeByTheSerials(t *testing.T) {
	d := newDisk(t)
	marks := []api.Mark{{Serial: 4, Used: 16}, {Serial: 9, Used: 16}, {Serial: 8, Used: 16}, {Serial: 1, Used: 16}}
	l := open(t, d, 20, marks...)
	answers(t, "5.9: the current one", l.Free(1), api.ErrSeg)
	for _, seg := range []int{2, 3, 0} {
		answers(t, "5.9", l.Free(seg), api.OK)
	}
	answers(t, "5.9: the current one, the last in use", l.Free(1), api.ErrSeg)
	if tail := l.Tail(); tail.Current != 1 || tail.Serial != 20 || !slices.Equal(tail.Held, []bool{true, false, true, true}) {
		t.Errorf("5.9: Tail = %v", tail)
	}
	l.Settle()
	if tail := l.Tail(); slices.Contains(tail.Held, true) {
		t.Errorf("5.9: Settle: %v", tail)
	}
}

func TestRewindRefuses(t *testing.T) {
	d, l := three(t)
	answers(t, "5.9", l.Free(0), api.OK)
	before := l.Tail()
	d.Flush()
	for name, spoil := range map[string]func(t *api.Tail){
		"a mark too few":                 func(t *api.Tail) { t.Marks = t.Marks[:3] },
		"marks and Held one too few":     func(t *api.Tail) { t.Marks, t.Held = t.Marks[:3], t.Held[:3] },
		"a mark too many":                func(t *api.Tail) { t.Marks = append(t.Marks, api.Mark{}) },
		"marks and Held one too many":    func(t *api.Tail) { t.Marks, t.Held = append(t.Marks, api.Mark{}), append(t.Held, false) },
		"no marks":                       func(t *api.Tail) { t.Marks = nil },
		"a serial that cannot be":        func(t *api.Tail) { t.Serial = last + 1 },
		"a serial below a mark's":        func(t *api.Tail) { t.Serial = 1 },
		"the serial 0":                   func(t *api.Tail) { t.Serial = 0 },
		"a mark with no serial":          func(t *api.Tail) { t.Marks[2] = api.Mark{Used: 16} },
		"too little used":                func(t *api.Tail) { t.Marks[1].Used = 15 },
		"nothing used":                   func(t *api.Tail) { t.Marks[1].Used = 0 },
		"too much used":                  func(t *api.Tail) { t.Marks[1].Used = 1025 },
		"used below 0":                   func(t *api.Tail) { t.Marks[1].Used = math.MinInt },
		"one serial twice":               func(t *api.Tail) { t.Marks[2] = t.Marks[1] },
		"Held too short":                 func(t *api.Tail) { t.Held = t.Held[:3] },
		"Held too long":                  func(t *api.Tail) { t.Held = append(t.Held, false) },
		"no Held":                        func(t *api.Tail) { t.Held = nil },
		"a segment in use that is held":  func(t *api.Tail) { t.Held[1] = true },
		"a current one that is free":     func(t *api.Tail) { t.Current = 2 },
		"a current one that is none":     func(t *api.Tail) { t.Current = 4 },
		"none, where there is one":       func(t *api.Tail) { t.Current = -1 },
		"a current one below -1":         func(t *api.Tail) { t.Current = -2 },
		"one, where there is none":       func(t *api.Tail) { t.Marks[1] = api.Mark{} },
		"the first, where there is none": func(t *api.Tail) { t.Marks[1], t.Current = api.Mark{}, 0 },
		"the one with a smaller serial": func(t *api.Tail) {
			t.Serial, t.Marks[2] = 3, api.Mark{Serial: 3, Used: 16}
		},
	} {
		bad := l.Tail()
		spoil(&bad)
		answers(t, "5.10: "+name, l.Rewind(bad), api.ErrMarks)
		tails(t, "5.10: behind the error: "+name, l, before)
	}
	answers(t, "5.10: the zero tail", l.Rewind(api.Tail{}), api.ErrMarks)
	tails(t, "5.10: behind the error", l, before)
	waits(t, "5.11: Rewind writes nothing", d)
}

func TestRewindTakes(t *testing.T) {
	d, l := three(t)
	d.Flush()
	stats := d.Stats()
	for name, wanted := range map[string]func() api.Tail{
		"nothing in use": func() api.Tail { return tailOf(0, -1) },
		"nothing in use, and a serial": func() api.Tail {
			return tailOf(last, -1)
		},
		"held ones": func() api.Tail {
			tail := tailOf(7, 2, api.Mark{}, api.Mark{Serial: 3, Used: 1024}, api.Mark{Serial: 7, Used: 16})
			tail.Held[0], tail.Held[3] = true, true
			return tail
		},
		"all are held": func() api.Tail {
			tail := tailOf(7, -1)
			tail.Held = []bool{true, true, true, true}
			return tail
		},
		"what was": func() api.Tail {
			return tailOf(2, 1, api.Mark{Serial: 1, Used: 1024}, api.Mark{Serial: 2, Used: 31})
		},
		"less": func() api.Tail { return tailOf(1, 0, api.Mark{Serial: 1, Used: 31}) },
		"more than there ever was": func() api.Tail {
			return tailOf(6, 3, api.Mark{Serial: 1, Used: 1024}, api.Mark{Serial: 2, Used: 1024}, api.Mark{Serial: 3, Used: 1024}, api.Mark{Serial: 6, Used: 1024})
		},
	} {
		answers(t, "5.10: "+name, l.Rewind(wanted()), api.OK)
		tails(t, "5.10: "+name, l, wanted())
	}
	if d.Stats() != stats {
		t.Errorf("5.10: Tail and Rewind read or wrote: %v, and it was %v", d.Stats(), stats)
	}
}

func TestRewindGoesOn(t *testing.T) {
	d, l := fresh(t)
	start := l.Tail()
	appends(t, "5.4", l, x, api.Place{Seg: 0, At: 16, Len: 15})
	one := l.Tail()
	appends(t, "5.4", l, body(50), api.Place{Seg: 0, At: 31, Len: 63})
	appends(t, "5.4", l, body(950), api.Place{Seg: 1, At: 16, Len: 963})
	answers(t, "5.10", l.Rewind(one), api.OK)
	gives(t, "5.15", l, 0, stored{api.Place{Seg: 0, At: 16, Len: 15}, x})
	misses(t, "5.15: nobody sees what was written behind", l, api.Place{Seg: 0, At: 31, Len: 63}, api.ErrPlace)
	misses(t, "5.15: nobody sees what was written behind", l, api.Place{Seg: 1, At: 16, Len: 963}, api.ErrPlace)
	appends(t, "5.4: the serial is given anew", l, body(980), api.Place{Seg: 0, At: 31, Len: 993})
	appends(t, "5.4: the serial is given anew", l, x, api.Place{Seg: 1, At: 16, Len: 15})
	tails(t, "5.10", l, tailOf(2, 1, api.Mark{Serial: 1, Used: 1024}, api.Mark{Serial: 2, Used: 31}))
	if got := bytesOf(t, d, 1); !slices.Equal(got[:size], filled(size, headerOf(2), frameOf(2, 16, x))) {
		t.Errorf("5.3: behind the new segment's frame are zeros: %x", got[:size])
	}
	answers(t, "5.10", l.Rewind(start), api.OK)
	appends(t, "5.15", l, body(1), api.Place{Seg: 0, At: 16, Len: 14})
	tails(t, "5.15", l, tailOf(1, 0, api.Mark{Serial: 1, Used: 30}))
}

// TestRewindKeepsTheReserve: it is no part of the state.
func TestRewindKeepsTheReserve(t *testing.T) {
	_, l := fresh(t)
	start := l.Tail()
	l.Reserve(3)
	for range 2 {
		answers(t, "5.3", l.Next(), api.OK)
		answers(t, "5.3", l.Next(), api.ErrFull)
		answers(t, "5.10", l.Rewind(start), api.OK)
	}
	tails(t, "5.9: the reserve is not to be seen in the tail", l, tailOf(0, -1))
}

// TestWhatDoesNotWrite: only Next and Append do.
func TestWhatDoesNotWrite(t *testing.T) {
	d, l := three(t)
	writes, before := d.Stats().Writes, l.Tail()
	for name, ask := range map[string]func(){
		"Fits":   func() { l.Fits(0) },
		"Read":   func() { l.Read(api.Place{Seg: 0, At: 16, Len: 15}) },
		"Check":  func() { l.Check(0) },
		"Frames": func() { framesOf(l, 0) },
		"Tail":   func() { l.Tail() },
		"Rewind": func() { l.Rewind(before) },
		"Settle": func() { l.Settle() },
		"Size":   func() { l.Size() },
		"Disk":   func() { l.Disk() },
		"Count":  func() { segment.Count(34, 8) },
		"Open":   func() { segment.Open(d, span, 0, make([]api.Mark, segments)) },
		"the rest": func() {
			l.Reserve(2)
			l.Reserve(0)
			l.Free(1)
		},
	} {
		ask()
		tails(t, "5.11: "+name, l, before)
		if s := d.Stats(); s.Writes != writes || s.Flushes != 0 {
			t.Errorf("5.11: %s has written", name)
		}
	}
}

// TestListsThatAreHandedIn are changed later, and nothing changes here; and they are not changed, nor what lies in their spare room.
func TestListsThatAreHandedIn(t *testing.T) {
	d := newDisk(t)
	room := []api.Mark{{Serial: 2, Used: 16}, {}, {Serial: 1, Used: 900}, {}, {Serial: 77, Used: 77}}
	marks := room[:4]
	was := slices.Clone(room)
	l, e := segment.Open(d, span, 5, marks)
	answers(t, "5.2", e, api.OK)
	l.Append(body(40))
	l.Next()
	l.Free(0)
	if !slices.Equal(room, was) {
		t.Errorf("0.4: the marks of Open have changed to %v", room)
	}
	before := l.Tail()
	for i := range room {
		room[i] = api.Mark{Serial: 5, Used: 500}
	}
	tails(t, "0.4: Open keeps nothing of its marks", l, before)

	roomMarks := append(slices.Clone(before.Marks), api.Mark{Serial: 77, Used: 77})
	roomHeld := append(slices.Clone(before.Held), true)
	tail := api.Tail{Marks: roomMarks[:4], Serial: before.Serial, Current: before.Current, Held: roomHeld[:4]}
	answers(t, "5.10", l.Rewind(tail), api.OK)
	l.Settle()
	l.Next()
	l.Append(body(10))
	if !slices.Equal(roomMarks[:4], before.Marks) || !slices.Equal(roomHeld[:4], before.Held) || roomMarks[4].Serial != 77 || !roomHeld[4] {
		t.Errorf("0.4: the tail of Rewind has changed to %v, %v", roomMarks, roomHeld)
	}
	now := l.Tail()
	for i := range roomMarks {
		roomMarks[i], roomHeld[i] = api.Mark{Serial: 6, Used: 600}, true
	}
	tails(t, "0.4: Rewind keeps nothing of its tail", l, now)

	_, l = fresh(t)
	roomBody := []byte("body and more")
	p, e := l.Append(api.Frame{Kind: 1, Body: roomBody[:4]})
	answers(t, "5.4", e, api.OK)
	if string(roomBody) != "body and more" {
		t.Errorf("0.4: the body has changed to %q", roomBody)
	}
	copy(roomBody, "?????????????")
	reads(t, "0.4: Append keeps nothing of the body", l, p, api.Frame{Kind: 1, Body: []byte("body")})
}

// TestWhatIsHandedOut is new memory: who changes it changes nothing here, and no other answer.
func TestWhatIsHandedOut(t *testing.T) {
	d, l := three(t)
	before := l.Tail()
	for range 2 {
		tail, other := l.Tail(), l.Tail()
		for i := range tail.Marks[:cap(tail.Marks)] {
			tail.Marks[:cap(tail.Marks)][i] = api.Mark{Serial: 9, Used: 900}
		}
		for i := range tail.Held[:cap(tail.Held)] {
			tail.Held[:cap(tail.Held)][i] = true
		}
		tails(t, "0.4: Tail", l, before)
		if !slices.Equal(other.Marks, before.Marks) || !slices.Equal(other.Held, before.Held) {
			t.Errorf("0.4: two tails share memory")
		}
		answers(t, "5.10", l.Rewind(before), api.OK)
	}
	image := [][]byte{bytesOf(t, d, 0), bytesOf(t, d, 1)}
	place := api.Place{Seg: 0, At: 31, Len: 993}
	one, _ := l.Read(place)
	two, _ := l.Read(place)
	spoil := func(b []byte) {
		b = b[:cap(b)]
		for i := range b {
			b[i] = '!'
		}
	}
	spoil(one.Body)
	if !sameFrame(two, body(980)) {
		t.Errorf("0.4: two answers of Read share memory")
	}
	reads(t, "0.4: Read", l, place, body(980))
	count := 0
	for _, f := range l.Frames(0) {
		spoil(f.Body)
		count++
	}
	if count != 2 {
		t.Errorf("0.4: %d frames, while their bodies are written into", count)
	}
	gives(t, "0.4: Frames", l, 0, stored{api.Place{Seg: 0, At: 16, Len: 15}, x}, stored{place, body(980)})
	for seg, b := range image {
		if !slices.Equal(bytesOf(t, d, seg), b) {
			t.Errorf("0.4: the disk's bytes have changed")
		}
	}
}

// TestTwoLogs with two disks know nothing of one another.
func TestTwoLogs(t *testing.T) {
	_, one := three(t)
	_, two := fresh(t)
	one.Reserve(4)
	one.Free(0)
	tails(t, "0.3", two, tailOf(0, -1))
	appends(t, "0.3", two, x, api.Place{Seg: 0, At: 16, Len: 15})
	misses(t, "0.3", one, api.Place{Seg: 0, At: 16, Len: 15}, api.ErrPlace)
	reads(t, "0.3", one, api.Place{Seg: 1, At: 16, Len: 15}, x)
}
