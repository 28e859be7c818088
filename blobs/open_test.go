package blobs_test

import (
	"bytes"
	"strings"
	"testing"

	"witness/api"
	"witness/blobs"
	"witness/segment"
)

func TestDigest(t *testing.T) {
	for _, body := range [][]byte{nil, {}, {0}, []byte("x"), bytes.Repeat([]byte("ab"), 500)} {
		for kind := range 256 {
			if got := blobs.Digest(byte(kind), body); got != sumOf(byte(kind), body) {
				t.Errorf("6.1: Digest(%d, %.20q) = %x", kind, body, got)
			}
		}
	}
	if blobs.Digest(1, []byte{2, 3}) == blobs.Digest(2, []byte{3}) {
		t.Error("6.1: the kind is not in it")
	}
}

func TestOpenOfAnEmptyLog(t *testing.T) {
	d, l, b := fresh(t)
	has(t, "6.2", b)
	if b.Log() != l {
		t.Error("6.9: another log")
	}
	answers(t, "6.2: no change has begun", b.End(), api.ErrOpen)
	answers(t, "6.2: no change has begun", b.Undo(), api.ErrOpen)
	if s := d.Stats(); s.Writes+s.Flushes != 0 {
		t.Errorf("6.2: Open has written: %v", s)
	}
	off(t, d)
	has(t, "6.2: nothing is in use, so nothing is refused", open(t, l))
}

func TestOpenOfNoLog(t *testing.T) {
	for _, l := range []*segment.Log{nil, {}} {
		if b, e := blobs.Open(l); b != nil || e == api.OK {
			t.Errorf("0.1: Open of no log = %v, %d", b, e)
		}
	}
}

// TestOpen finds what was appended by hand, by any kind, and passes over what is no blob's.
func TestOpen(t *testing.T) {
	d := newDisk(t)
	l := logOf(t, d, 0)
	for _, f := range []api.Frame{
		blob(1, 0, "x"),                      // at 16, 15 bytes
		{Kind: 1},                            // at 31, 13 bytes: an empty body
		blob(5, 0, "page"),                   // at 44, 18 bytes
		blob(2, 0, "x"),                      // at 62, 15 bytes
		blob(3, 0, ""),                       // at 77, 14 bytes
		{Kind: 5},                            // at 91, 13 bytes
		blob(4, 255, "x"),                    // at 104, 15 bytes
		{Kind: 2},                            // at 119, 13 bytes
		{Kind: 3},                            // at 132, 13 bytes
		{Kind: 4},                            // at 145, 13 bytes
		blob(1, 7, "y"),                      // at 158, 15 bytes: Nth 7, and no lower one
		blob(5, 0, "x"),                      // at 173, 15 bytes
		blob(4, 1, strings.Repeat("z", 400)), // at 188, 414 bytes
	} {
		_, e := l.Append(f)
		answers(t, "5.4", e, api.OK)
	}
	want := []item{
		{addr(1, "x"), at(0, 16, 15)},
		{addr(2, "x"), at(0, 62, 15)},
		{addr(3, ""), at(0, 77, 14)},
		{api.Addr{Sum: sumOf(4, []byte("x")), Nth: 255}, at(0, 104, 15)},
		{api.Addr{Sum: sumOf(1, []byte("y")), Nth: 7}, at(0, 158, 15)},
		{api.Addr{Sum: sumOf(4, bytes.Repeat([]byte("z"), 400)), Nth: 1}, at(0, 188, 414)},
	}
	before, writes := l.Tail(), d.Stats().Writes
	b := open(t, l)
	has(t, "6.2", b, want...)
	gets(t, "6.4", b, 3, addr(3, ""), "")
	gets(t, "6.4", b, 1, want[4].addr, "y")
	unchanged(t, "6.2: Open beside it", b, func() { has(t, "6.2", open(t, l), want...) })
	if after := l.Tail(); after.Marks[0] != before.Marks[0] || after.Serial != before.Serial || d.Stats().Writes != writes {
		t.Errorf("6.2: Open has written: %v, and it was %v", after, before)
	}
	has(t, "6.2: behind the mark nothing is looked at", open(t, logOf(t, d, 1, api.Mark{Serial: 1, Used: 77})), want[:2]...)
	has(t, "6.2: a frame that goes over the mark is none", open(t, logOf(t, d, 1, api.Mark{Serial: 1, Used: 76})), want[:1]...)
}

// TestOpenInTheOrderOfSerials has the same address in two segments: the one with the greater serial counts, whatever its number.
func TestOpenInTheOrderOfSerials(t *testing.T) {
	x := addr(1, "x")
	_, l, _ := fresh(t)
	lay := func(bodies ...string) {
		for _, body := range bodies {
			_, e := l.Append(blob(1, 0, body))
			answers(t, "5.4", e, api.OK)
		}
	}
	lay("x")
	answers(t, "5.3", l.Next(), api.OK)
	lay("early", "x")
	has(t, "6.2: the serials 1 and 2", open(t, l), item{x, at(1, 35, 15)}, item{addr(1, "early"), at(1, 16, 19)})
	answers(t, "5.9", l.Free(0), api.OK)
	l.Settle()
	answers(t, "5.3", l.Next(), api.OK) // segment 0 again, with the serial 3
	lay("late", "other", "x")
	has(t, "6.2: the serials 3 and 2", open(t, l),
		item{x, at(0, 53, 15)},
		item{addr(1, "early"), at(1, 16, 19)},
		item{addr(1, "late"), at(0, 16, 18)},
		item{addr(1, "other"), at(0, 34, 19)},
	)
	lay("x", "x")
	lies(t, "6.2: the last one of a segment", open(t, l), x, at(0, 83, 15))
	lies(t, "6.2: of what is used", open(t, logOf(t, l.Disk(), 3, api.Mark{Serial: 3, Used: 83}, l.Tail().Marks[1])), x, at(0, 68, 15))
}

// TestOpenOfManySegments has an address in each of them, under serials in every turn of their numbers.
func TestOpenOfManySegments(t *testing.T) {
	x := addr(2, "x")
	for turns := range segments {
		d := newDisk(t)
		marks := make([]api.Mark, segments)
		greatest := 0
		for seg := range segments {
			serial := uint64(1 + (seg+turns)%segments)
			if serial == segments {
				greatest = seg
			}
			one := make([]api.Mark, segments) // the others are taken, so that Next takes just this one
			for other := range segments {
				if other != seg {
					one[other] = api.Mark{Serial: uint64(1 + other + segments), Used: 16}
				}
			}
			held := logOf(t, d, 2*segments, one...)
			tail := held.Tail()
			for other := range segments {
				if other != seg {
					tail.Marks[other], tail.Held[other] = api.Mark{}, true
				}
			}
			tail.Serial, tail.Current = serial-1, -1
			answers(t, "5.10", held.Rewind(tail), api.OK)
			_, e := held.Append(blob(2, 0, "x"))
			answers(t, "5.4", e, api.OK)
			marks[seg] = held.Tail().Marks[seg]
		}
		has(t, "6.2", open(t, logOf(t, d, segments, marks...)), item{x, at(greatest, 16, 15)})
	}
}

// TestOpenWhereTheLaterFrameIsOfAnotherBlob: with one address, the later frame counts, whatever stands in the earlier one.
func TestOpenWhereTheLaterFrameIsOfAnotherBlob(t *testing.T) {
	_, l, b := freshWith(t, one)
	puts(t, "6.3", b, 1, "first", nth(0))
	puts(t, "6.3", b, 1, "second", nth(1))
	if n := b.Keep([]api.Addr{nth(1)}); n != 1 {
		t.Errorf("6.7: Keep = %d", n)
	}
	puts(t, "6.3: the least Nth", b, 3, "third", nth(0))
	again := openWith(t, l, one)
	has(t, "6.2", again, each(b)...)
	gets(t, "6.2", again, 3, nth(0), "third")
	misses(t, "6.2", again, 1, nth(0), api.ErrKind)
	gets(t, "6.2", again, 1, nth(1), "second")
}

// TestOpenOfADamagedLog turns a bit of each frame in turn: what lies ahead of it in its segment is there, and what lies in others.
func TestOpenOfADamagedLog(t *testing.T) {
	d, l, b := fresh(t)
	var first []item
	for _, body := range []string{"x", "", "some more", strings.Repeat("long", 50), "y"} {
		a := put(t, b, 1, body)
		p, _ := b.Where(a)
		first = append(first, item{a, p})
	}
	answers(t, "5.3", l.Next(), api.OK)
	other := put(t, b, 2, "in another segment")
	p, _ := b.Where(other)
	second := item{other, p}
	for i, damaged := range first {
		for _, k := range []int{0, 4, 5, 9, damaged.place.Len - 1} {
			turn(t, d, 0, damaged.place.At+k)
			again := open(t, l)
			has(t, "6.2: ahead of the damage", again, append([]item{second}, first[:i]...)...)
			misses(t, "6.4: the damaged one, of blobs that know it", b, 1, damaged.addr, api.ErrCheck)
			turn(t, d, 0, damaged.place.At+k)
		}
	}
	for k := range 16 {
		turn(t, d, 0, k)
		has(t, "6.2: a header is not looked at", open(t, l), append([]item{second}, first...)...)
		turn(t, d, 0, k)
	}
	answers(t, "6.6", b.Move(first[1].addr), api.OK)
	moved, _ := b.Where(first[1].addr)
	turn(t, d, moved.Seg, moved.At)
	lies(t, "6.2: the later frame is damaged, the earlier one is not", open(t, l), first[1].addr, first[1].place)
	turn(t, d, moved.Seg, moved.At)
	turn(t, d, 0, first[1].place.At)
	lies(t, "6.2: the earlier frame is damaged, the later one is not", open(t, l), first[1].addr, moved)
}

func TestOpenWithoutPower(t *testing.T) {
	d, l, b := fresh(t)
	put(t, b, 1, "x")
	turn(t, d, 0, 0)
	off(t, d)
	if b, e := blobs.Open(l); b != nil || e != api.ErrPower {
		t.Errorf("6.2: Open = %v, %d", b, e)
	}
	on(d)
	if again := open(t, l); again.Len() != 1 {
		t.Errorf("6.2: behind the crash there are %d", again.Len())
	}
}

// TestTwoDisks: what is put in one is not seen in the other.
func TestTwoDisks(t *testing.T) {
	_, _, b := fresh(t)
	_, _, c := fresh(t)
	put(t, b, 1, "x")
	answers(t, "6.8", b.Begin(), api.OK)
	has(t, "0.3", c)
	answers(t, "0.3", c.End(), api.ErrOpen)
	puts(t, "0.3", c, 1, "y", addr(1, "y"))
	lies(t, "0.3", c, addr(1, "y"), at(0, 16, 15))
	has(t, "0.3", b, item{addr(1, "x"), at(0, 16, 15)})
}
