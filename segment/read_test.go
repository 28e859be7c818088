package segment_test

import (
	"bytes"
	"math"
	"testing"

	"witness/api"
	"witness/segment"
)

// TestRead is the chapter's example 5, and more.
func TestRead(t *testing.T) {
	d, l := three(t)
	reads(t, "5.6", l, api.Place{Seg: 0, At: 16, Len: 15}, x)
	reads(t, "5.6: over seams", l, api.Place{Seg: 0, At: 31, Len: 993}, body(980))
	reads(t, "5.6", l, api.Place{Seg: 1, At: 16, Len: 15}, x)
	for _, c := range []struct {
		place api.Place
		want  api.Errno
	}{
		{api.Place{Seg: 0, At: 16, Len: 14}, api.ErrShort},
		{api.Place{Seg: 0, At: 16, Len: 13}, api.ErrShort},
		{api.Place{Seg: 0, At: 31, Len: 992}, api.ErrShort},
		{api.Place{Seg: 0, At: 16, Len: 16}, api.ErrPlace}, // the frame is shorter
		{api.Place{Seg: 0, At: 16, Len: 1008}, api.ErrPlace},
		{api.Place{Seg: 0, At: 17, Len: 15}, api.ErrCheck},
		{api.Place{Seg: 0, At: 32, Len: 992}, api.ErrCheck},
		{api.Place{Seg: 0, At: 1011, Len: 13}, api.ErrCheck}, // the last bytes of the segment
		{api.Place{Seg: 0, At: 1012, Len: 13}, api.ErrPlace},
		{api.Place{Seg: 0, At: 32, Len: 993}, api.ErrPlace},
		{api.Place{Seg: 0, At: 15, Len: 15}, api.ErrPlace},
		{api.Place{Seg: 0, At: 0, Len: 16}, api.ErrPlace},
		{api.Place{Seg: 0, At: -1, Len: 32}, api.ErrPlace},
		{api.Place{Seg: 0, At: 16, Len: 12}, api.ErrPlace},
		{api.Place{Seg: 0, At: 16, Len: 0}, api.ErrPlace},
		{api.Place{Seg: 0, At: 16, Len: -1}, api.ErrPlace},
		{api.Place{Seg: 1, At: 16, Len: 16}, api.ErrPlace}, // behind what is used
		{api.Place{Seg: 1, At: 31, Len: 13}, api.ErrPlace},
		{api.Place{Seg: 1, At: 31, Len: 15}, api.ErrPlace},
		{api.Place{Seg: 3, At: 16, Len: 15}, api.ErrPlace}, // free
		{api.Place{Seg: 4, At: 16, Len: 15}, api.ErrPlace},
		{api.Place{Seg: -1, At: 16, Len: 15}, api.ErrPlace},
		{api.Place{Seg: math.MaxInt, At: 16, Len: 15}, api.ErrPlace},
		{api.Place{Seg: math.MinInt, At: 16, Len: 15}, api.ErrPlace},
		{api.Place{Seg: 0, At: 16, Len: math.MaxInt}, api.ErrPlace},
		{api.Place{Seg: 0, At: math.MaxInt, Len: 15}, api.ErrPlace},
		{api.Place{Seg: 0, At: math.MaxInt, Len: math.MaxInt}, api.ErrPlace},
		{api.Place{Seg: 0, At: math.MinInt, Len: math.MinInt}, api.ErrPlace},
		{api.Place{Seg: 0, At: math.MinInt, Len: 15}, api.ErrPlace},
		{api.Place{Seg: 0, At: 16, Len: math.MinInt}, api.ErrPlace},
		{api.Place{}, api.ErrPlace},
	} {
		misses(t, "5.6", l, c.place, c.want)
	}
	tails(t, "5.11", l, tailOf(2, 1, api.Mark{Serial: 1, Used: 1024}, api.Mark{Serial: 2, Used: 31}))
	turn(t, d, 0, 17)
	misses(t, "5.6: a turned length", l, api.Place{Seg: 0, At: 16, Len: 15}, api.ErrCheck)
	turn(t, d, 0, 17)
	turn(t, d, 0, 1023)
	misses(t, "5.6: a turned check sum", l, api.Place{Seg: 0, At: 31, Len: 993}, api.ErrCheck)
	reads(t, "5.6: the frame beside it", l, api.Place{Seg: 0, At: 16, Len: 15}, x)
	off(t, d)
	misses(t, "5.6: the power is gone", l, api.Place{Seg: 0, At: 16, Len: 15}, api.ErrPower)
	misses(t, "5.6: the place is asked first", l, api.Place{Seg: 0, At: 15, Len: 15}, api.ErrPlace)
	misses(t, "5.6: the place is asked first", l, api.Place{Seg: 2, At: 16, Len: 15}, api.ErrPlace)
}

// TestReadOfAnotherKind: a frame's kind is codec's to ask, and it is asked last.
func TestReadOfAnotherKind(t *testing.T) {
	d := newDisk(t)
	odd := api.Frame{Kind: 9, Body: []byte("?")}
	b := filled(size, headerOf(1), frameOf(1, 16, x), frameOf(1, 31, odd), frameOf(1, 45, x))
	answers(t, "3.4", d.Write(2, b), api.OK)
	l := open(t, d, 1, api.Mark{Serial: 1, Used: 60})
	misses(t, "5.6", l, api.Place{Seg: 0, At: 31, Len: 14}, api.ErrKind)
	misses(t, "5.6: its error goes ahead of the length", l, api.Place{Seg: 0, At: 31, Len: 15}, api.ErrKind)
	checks(t, "5.7", l, 0, 31, api.ErrKind)
	gives(t, "5.8", l, 0, stored{api.Place{Seg: 0, At: 16, Len: 15}, x})
}

// TestReadOfAnotherSerial: frames that lie there from another life of the segment are none.
func TestReadOfAnotherSerial(t *testing.T) {
	d, _ := three(t)
	l := open(t, d, 9, api.Mark{Serial: 3, Used: 1024}, api.Mark{Serial: 2, Used: 31})
	misses(t, "5.6", l, api.Place{Seg: 0, At: 16, Len: 15}, api.ErrCheck)
	checks(t, "5.7", l, 0, 0, api.ErrMarks)
	gives(t, "5.8", l, 0)
	reads(t, "5.6", l, api.Place{Seg: 1, At: 16, Len: 15}, x)
}

// TestCheck is the chapter's example 8, and more.
func TestCheck(t *testing.T) {
	d, l := three(t)
	checks(t, "5.7: whole", l, 0, 1024, api.OK)
	checks(t, "5.7: whole", l, 1, 31, api.OK)
	for _, seg := range []int{2, 3} {
		checks(t, "5.7: free", l, seg, 0, api.OK)
		gives(t, "5.8: free", l, seg)
	}
	for _, seg := range []int{-1, 4, 9, math.MaxInt, math.MinInt} {
		checks(t, "5.7: no segment", l, seg, 0, api.ErrSeg)
		gives(t, "5.8: no segment", l, seg)
	}
	one, two := stored{api.Place{Seg: 0, At: 16, Len: 15}, x}, stored{api.Place{Seg: 0, At: 31, Len: 993}, body(980)}
	gives(t, "5.8", l, 0, one, two)
	gives(t, "5.8", l, 1, stored{api.Place{Seg: 1, At: 16, Len: 15}, x})
	for at := range whole {
		turn(t, d, 0, at)
		switch {
		case at < 4:
			checks(t, "5.7: a turned letter", l, 0, 0, api.ErrForm)
			gives(t, "5.8: the header is not looked at", l, 0, one, two)
		case at < 16:
			checks(t, "5.7: a turned header", l, 0, 0, api.ErrCheck)
			gives(t, "5.8: the header is not looked at", l, 0, one, two)
		case at < 31:
			checks(t, "5.7: the first frame is turned", l, 0, 16, api.ErrCheck)
			gives(t, "5.8: the first frame is turned", l, 0)
		default:
			checks(t, "5.7: the second frame is turned", l, 0, 31, api.ErrCheck)
			gives(t, "5.8: the second frame is turned", l, 0, one)
		}
		turn(t, d, 0, at)
	}
	for at := 31; at < whole; at++ {
		turn(t, d, 1, at)
	}
	checks(t, "5.7: turned behind the used bytes", l, 1, 31, api.OK)
	gives(t, "5.8: turned behind the used bytes", l, 1, stored{api.Place{Seg: 1, At: 16, Len: 15}, x})
}

// TestCheckOfHandMadeSegments: what codec says of a header or a frame is handed on, and what is used ends where the mark says.
func TestCheckOfHandMadeSegments(t *testing.T) {
	for _, c := range []struct {
		name  string
		bytes []byte
		used  int
		want  int
		errno api.Errno
		n     int // frames
	}{
		{"a header alone", headerOf(1), 16, 16, api.OK, 0},
		{"a frame behind what is used", cat(headerOf(1), frameOf(1, 16, x)), 16, 16, api.OK, 0},
		{"a frame that is cut", cat(headerOf(1), frameOf(1, 16, x)), 30, 16, api.ErrShort, 0},
		{"a head that is cut", cat(headerOf(1), frameOf(1, 16, x)), 28, 16, api.ErrShort, 0},
		{"a second frame that is cut", cat(headerOf(1), frameOf(1, 16, x), frameOf(1, 31, x)), 45, 31, api.ErrShort, 1},
		{"one byte behind a frame", cat(headerOf(1), frameOf(1, 16, x), frameOf(1, 31, x)), 32, 31, api.ErrShort, 1},
		{"a frame behind what is used", cat(headerOf(1), frameOf(1, 16, x), frameOf(1, 31, x)), 31, 31, api.OK, 1},
		{"zeros", headerOf(1), 100, 16, api.ErrCheck, 0},
		{"zeros behind a frame", cat(headerOf(1), frameOf(1, 16, x)), 1024, 31, api.ErrCheck, 1},
		{"a frame of another byte", cat(headerOf(1), frameOf(1, 17, x)), 31, 16, api.ErrCheck, 0},
		{"a frame of another serial", cat(headerOf(1), frameOf(2, 16, x)), 31, 16, api.ErrCheck, 0},
		{"another serial", cat(headerOf(2), frameOf(1, 16, x)), 31, 0, api.ErrMarks, 1},
		{"a serial that cannot be", cat(headerOf(last+1), frameOf(1, 16, x)), 31, 0, api.ErrLong, 1},
		{"no header", cat(make([]byte, 16), frameOf(1, 16, x)), 31, 0, api.ErrForm, 1},
		{"a length that cannot be", cat(headerOf(1), frameOf(1, 16, body(4194305))[:900]), 900, 16, api.ErrLong, 0},
		{"a frame over the segment's end", cat(headerOf(1), frameOf(1, 16, x), frameOf(1, 31, body(981))[:993]), 1024, 31, api.ErrShort, 1},
	} {
		b := filled(whole, c.bytes)
		d := newDisk(t)
		for i := range span {
			answers(t, "3.4", d.Write(2+span+i, b[i*size:(i+1)*size]), api.OK)
		}
		l := open(t, d, 1, api.Mark{}, api.Mark{Serial: 1, Used: c.used})
		checks(t, "5.7: "+c.name, l, 1, c.want, c.errno)
		if got := framesOf(l, 1); len(got) != c.n {
			t.Errorf("5.8: %s: %d frames, want %d", c.name, len(got), c.n)
		}
	}
}

func TestWithoutPower(t *testing.T) {
	d, l := three(t)
	turn(t, d, 0, 0)
	off(t, d)
	checks(t, "5.7: the disk is asked ahead of the header", l, 0, 0, api.ErrPower)
	checks(t, "5.7", l, 1, 0, api.ErrPower)
	checks(t, "5.7: free", l, 2, 0, api.OK)
	checks(t, "5.7: no segment", l, 4, 0, api.ErrSeg)
	for seg := -1; seg <= segments; seg++ {
		gives(t, "5.8: the power is gone", l, seg)
	}
	d.Crash(api.Crash{Keep: make([]bool, 99), Torn: -1})
	d.Rot(2, 0, 1)
	checks(t, "5.7: a crash that kept nothing", l, 0, 0, api.ErrForm)
}

// many are frames of all lengths up to some, which fill a segment, and the byte at which they end.
func many() (want []stored, at int) {
	at = 16
	for n := 0; at+13+n <= whole; n++ {
		f := api.Frame{Kind: byte(n%5 + 1), Body: bytes.Repeat([]byte{byte(n)}, n)}
		want = append(want, stored{api.Place{Seg: 0, At: at, Len: 13 + n}, f})
		at += 13 + n
	}
	return want, at
}

func TestFrames(t *testing.T) {
	d, l := fresh(t)
	want, end := many()
	early := l.Frames(0) // made while nothing is in use
	for _, s := range want {
		appends(t, "5.4", l, s.frame, s.place)
	}
	gives(t, "5.8", l, 0, want...)
	checks(t, "5.7", l, 0, end, api.OK)
	for range 2 {
		var got []stored
		for p, f := range early {
			got = append(got, stored{p, f})
		}
		if !sameFrames(got, want) {
			t.Errorf("5.8: what is in use is asked when the ranging begins: %d frames, want %d", len(got), len(want))
		}
	}
	for stop := range want {
		count := 0
		for p := range l.Frames(0) {
			if p != want[count].place {
				t.Errorf("5.8: frame %d lies at %v, want %v", count, p, want[count].place)
			}
			count++
			if count > stop {
				break
			}
		}
		if count != stop+1 {
			t.Errorf("0.6: stopped at frame %d, and there were %d", stop, count)
		}
	}
	for i := range want {
		turn(t, d, 0, want[i].place.At+want[i].place.Len-1)
		gives(t, "5.8: up to the turned frame", l, 0, want[:i]...)
		checks(t, "5.7: up to the turned frame", l, 0, want[i].place.At, api.ErrCheck)
		turn(t, d, 0, want[i].place.At+want[i].place.Len-1)
	}
}

// TestFramesWithinFrames ranges over one list within itself: each ranging goes by itself.
func TestFramesWithinFrames(t *testing.T) {
	_, l := fresh(t)
	want, _ := many()
	for _, s := range want {
		appends(t, "5.4", l, s.frame, s.place)
	}
	list := l.Frames(0)
	outer := 0
	for range list {
		inner := 0
		for range list {
			inner++
		}
		if inner != len(want) {
			t.Fatalf("0.6: %d frames within, want %d", inner, len(want))
		}
		outer++
	}
	if outer != len(want) {
		t.Errorf("0.6: %d frames, want %d", outer, len(want))
	}
}

// TestARefusalOnTheWay lets the power go, or a frame rot, while one ranges: what was not given yet is looked at then.
func TestARefusalOnTheWay(t *testing.T) {
	want, _ := many()
	for stop := range want {
		d, l := fresh(t)
		for _, s := range want {
			appends(t, "5.4", l, s.frame, s.place)
		}
		ruin := map[string]func(){
			"the power goes": func() { off(t, d) },
			"a frame rots":   func() { turn(t, d, 0, want[stop].place.At+want[stop].place.Len) },
		}
		for _, name := range []string{"a frame rots", "the power goes"} {
			count := 0
			for range l.Frames(0) {
				if count == stop {
					ruin[name]()
				}
				count++
			}
			if count != stop+1 {
				t.Errorf("5.8: %s behind frame %d, and %d were given", name, stop, count)
			}
			if name == "a frame rots" {
				ruin[name]()
			}
		}
	}
}

// TestChangesWhileRanging: what is given then is free, but it ends, and nothing panics.
func TestChangesWhileRanging(t *testing.T) {
	for name, change := range map[string]func(l *segment.Log){
		"Append": func(l *segment.Log) { l.Append(body(40)) },
		"Next":   func(l *segment.Log) { l.Next() },
		"Free":   func(l *segment.Log) { l.Next(); l.Free(0) },
		"Rewind": func(l *segment.Log) { l.Rewind(tailOf(0, -1)) },
		"anew":   func(l *segment.Log) { l.Rewind(tailOf(0, -1)); l.Append(body(995)) },
	} {
		_, l := fresh(t)
		want, _ := many()
		for _, s := range want {
			appends(t, "5.4", l, s.frame, s.place)
		}
		count := 0
		for range l.Frames(0) {
			change(l)
			count++
		}
		if count == 0 || count > len(want) {
			t.Errorf("5.8: %s while ranging: %d frames, and %d were in use when it began", name, count, len(want))
		}
	}
}
