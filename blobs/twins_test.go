package blobs_test

import (
	"slices"
	"strconv"
	"testing"

	"witness/api"
	"witness/disk"
	"witness/segment"
)

// roomy is a log with room for some hundred blobs, and blobs that all share one digest.
func roomy(t *testing.T) *segment.Log {
	t.Helper()
	d, e := disk.New(2+segments*64, size)
	answers(t, "3.1", e, api.OK)
	l, e := segment.Open(d, 64, 0, make([]api.Mark, segments))
	answers(t, "5.2", e, api.OK)
	return l
}

func TestTwins(t *testing.T) {
	_, _, b := freshWith(t, one)
	for i, kind := range []byte{1, 2, 3, 4, 1, 2} {
		body := "x"
		if i > 3 {
			body = "y"
		}
		lacks(t, "6.5", b, kind, body)
		puts(t, "6.3: the least Nth that none has", b, kind, body, nth(i))
		gets(t, "6.11", b, kind, nth(i), body)
		finds(t, "6.5", b, kind, body, nth(i))
	}
	for i, kind := range []byte{1, 2, 3, 4} {
		unchanged(t, "6.10: it is there", b, func() { puts(t, "6.10", b, kind, "x", nth(i)) })
		gets(t, "6.10", b, kind, nth(i), "x")
	}
	gets(t, "6.10", b, 1, nth(4), "y")
	misses(t, "6.4", b, 2, nth(4), api.ErrKind)
	misses(t, "6.4", b, 1, nth(6), api.ErrNone)
	if b.Len() != 6 {
		t.Errorf("6.10: %d are there", b.Len())
	}
}

// TestTwinsWithGaps: the least Nth that is free is given, and all that are there are looked at, also behind a gap.
func TestTwinsWithGaps(t *testing.T) {
	_, l, b := freshWith(t, one)
	for i := range 6 {
		puts(t, "6.3", b, 1, strconv.Itoa(i), nth(i))
	}
	if n := b.Keep([]api.Addr{nth(2), nth(3), nth(5)}); n != 3 {
		t.Errorf("6.7: Keep = %d", n)
	}
	puts(t, "6.10: behind the gap", b, 1, "5", nth(5))
	finds(t, "6.5: behind the gap", b, 1, "3", nth(3))
	lacks(t, "6.5: it was forgotten", b, 1, "0")
	puts(t, "6.3: the least Nth, whatever it had", b, 1, "4", nth(0))
	puts(t, "6.3", b, 1, "0", nth(1))
	puts(t, "6.3", b, 1, "1", nth(4))
	puts(t, "6.3", b, 1, "6", nth(6))
	for i, n := range []int{1, 4, 2, 3, 0, 5, 6} {
		gets(t, "6.11", b, 1, nth(n), strconv.Itoa(i))
	}
	has(t, "6.12", openWith(t, anew(t, l), one), each(b)...)
	answers(t, "6.6", b.Move(nth(4)), api.OK)
	gets(t, "6.11", b, 1, nth(4), "1")
	has(t, "6.12", openWith(t, anew(t, l), one), each(b)...)
}

// TestTheFirstOfAlikeBlobs: frames made by hand have one blob under two addresses; the least Nth is found.
func TestTheFirstOfAlikeBlobs(t *testing.T) {
	_, l, _ := fresh(t)
	for _, n := range []byte{200, 3, 7} {
		_, e := l.Append(blob(1, n, "x"))
		answers(t, "5.4", e, api.OK)
	}
	b := open(t, l)
	third := api.Addr{Sum: sumOf(1, []byte("x")), Nth: 3}
	finds(t, "6.5", b, 1, "x", third)
	unchanged(t, "6.3", b, func() { puts(t, "6.3", b, 1, "x", third) })
	gets(t, "6.4", b, 1, third, "x")
	turn(t, l.Disk(), 0, 16+14) // of the frame with Nth 200, which nobody needs to read
	finds(t, "6.5: it is read up to the first one", b, 1, "x", third)
	turn(t, l.Disk(), 0, 31+14)
	lacks(t, "6.5: the first one is damaged", b, 1, "x")
	refuses(t, "6.3: the first one is damaged", b, 1, "x", api.ErrCheck)
}

// TestDamagedTwins: reads go from Nth 0 on, up to the blob that is wanted; the first that fails is the error.
func TestDamagedTwins(t *testing.T) {
	d, _, b := freshWith(t, one)
	for i := range 4 {
		puts(t, "6.3", b, 1, strconv.Itoa(i), nth(i))
	}
	turn(t, d, 0, 16+2*15+9)
	puts(t, "6.3: ahead of the damage", b, 1, "1", nth(1))
	finds(t, "6.5: ahead of the damage", b, 1, "1", nth(1))
	refuses(t, "6.3: behind the damage", b, 1, "3", api.ErrCheck)
	lacks(t, "6.5: behind the damage", b, 1, "3")
	refuses(t, "6.3: nowhere", b, 1, "new", api.ErrCheck)
	lacks(t, "6.5: nowhere", b, 1, "new")
	refuses(t, "6.3: the kind goes first", b, 5, "new", api.ErrKind)
	gets(t, "6.4: by its address", b, 1, nth(3), "3")
	if n := b.Keep([]api.Addr{nth(0), nth(1), nth(3)}); n != 1 {
		t.Errorf("6.7: Keep = %d", n)
	}
	puts(t, "6.3: in the place of the damaged one", b, 1, "2", nth(2))
	gets(t, "6.4", b, 1, nth(2), "2")
}

// TestTooManyTwins: 256 have one digest, and no more.
func TestTooManyTwins(t *testing.T) {
	l := roomy(t)
	b := openWith(t, l, one)
	for i := range 256 {
		puts(t, "6.3", b, byte(1+i%4), strconv.Itoa(i), nth(i))
	}
	refuses(t, "6.3: the 257th", b, 1, "new", api.ErrTwins)
	lacks(t, "6.5: the 257th", b, 1, "new")
	refuses(t, "6.3: ErrTwins goes ahead of the log's error", b, 1, string(make([]byte, 9000)), api.ErrTwins)
	refuses(t, "6.3: the kind goes first", b, 0, "new", api.ErrKind)
	unchanged(t, "6.3: the 256th is there", b, func() { puts(t, "6.3", b, 4, "255", nth(255)) })
	gets(t, "6.11", b, 4, nth(255), "255")

	p, _ := b.Where(nth(255))
	turned := 2 + (p.Seg*64*size+p.At)/size
	answers(t, "3.8", l.Disk().Rot(turned, p.At%size, 1), api.OK)
	refuses(t, "6.3: a read that fails goes ahead of ErrTwins", b, 1, "new", api.ErrCheck)
	answers(t, "3.8", l.Disk().Rot(turned, p.At%size, 1), api.OK)

	var others []api.Addr
	for i := range 256 {
		if i != 77 {
			others = append(others, nth(i))
		}
	}
	if n := b.Keep(others); n != 1 {
		t.Errorf("6.7: Keep = %d", n)
	}
	puts(t, "6.3: the one that is free", b, 1, "new", nth(77))
	refuses(t, "6.3: and no other", b, 1, "newer", api.ErrTwins)

	other := openWith(t, l, func(kind byte, _ []byte) api.Sum { return api.Sum{kind} })
	if a, e := other.Put(1, []byte("another")); e != api.OK || a.Nth != 0 && a.Sum != (api.Sum{1}) {
		t.Errorf("6.3: of another digest there are not as many: %v, %d", a, e)
	}
}

// TestUndoOfTwins: an address that a change has given to one blob is the other's again.
func TestUndoOfTwins(t *testing.T) {
	_, _, b := freshWith(t, one)
	puts(t, "6.3", b, 1, "a", nth(0))
	puts(t, "6.3", b, 1, "b", nth(1))
	before := each(b)
	answers(t, "6.8", b.Begin(), api.OK)
	if n := b.Keep([]api.Addr{nth(1)}); n != 1 {
		t.Errorf("6.7: Keep = %d", n)
	}
	puts(t, "6.3", b, 1, "c", nth(0))
	puts(t, "6.3", b, 1, "a", nth(2))
	answers(t, "6.8", b.Undo(), api.OK)
	if !slices.Equal(each(b), before) {
		t.Errorf("6.8: %v, and it was %v", each(b), before)
	}
	gets(t, "6.12", b, 1, nth(0), "a")
	finds(t, "6.12", b, 1, "a", nth(0))
	lacks(t, "6.12", b, 1, "c")
	puts(t, "6.12", b, 1, "c", nth(2))
}
