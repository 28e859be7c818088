package segment_test

import (
	"math"
	"testing"

	"witness/api"
	"witness/disk"
	"witness/segment"
)

func TestCount(t *testing.T) {
	for _, c := range []struct{ sectors, span, want int }{
		{34, 8, 4}, {33, 8, 3}, {2, 8, 0}, {1, 8, 0}, {0, 8, 0}, {-5, 8, 0}, {34, 0, 0}, {34, -1, 0}, {34, -8, 0},
		{3, 1, 1}, {2, 1, 0}, {10, 8, 1}, {9, 8, 0}, {11, 8, 1}, {17, 8, 1}, {18, 8, 2}, {65536, 2, 32767}, {65536, 1, 65534},
		{34, 1025, 0}, {34, math.MaxInt, 0}, {math.MaxInt, 1, math.MaxInt - 2}, {math.MinInt, 1, 0}, {math.MinInt, math.MinInt, 0}, {34, math.MinInt, 0},
	} {
		if n := segment.Count(c.sectors, c.span); n != c.want {
			t.Errorf("5.1: Count(%d, %d) = %d, want %d", c.sectors, c.span, n, c.want)
		}
	}
}

func TestOpenRefuses(t *testing.T) {
	d := newDisk(t)
	var m = func(serial uint64, used int) api.Mark { return api.Mark{Serial: serial, Used: used} }
	free := m(0, 0)
	wrong := m(9, 9)
	for _, c := range []struct {
		span   int
		serial uint64
		marks  []api.Mark
		want   api.Errno
	}{
		{1, 0, make([]api.Mark, 32), api.ErrSpan},
		{0, 0, nil, api.ErrSpan},
		{-8, 0, nil, api.ErrSpan},
		{math.MinInt, 0, nil, api.ErrSpan},
		{1025, 0, nil, api.ErrSpan}, // and there is not one such segment
		{math.MaxInt, last + 1, []api.Mark{wrong}, api.ErrSpan},
		{17, 0, []api.Mark{free}, api.ErrSize},
		{17, last + 1, []api.Mark{wrong}, api.ErrSize},
		{33, 0, nil, api.ErrSize},
		{1024, 0, nil, api.ErrSize},
		{16, 0, []api.Mark{free, free}, api.OK},
		{2, 0, make([]api.Mark, 16), api.OK},
		{8, 0, []api.Mark{free, free, free, free}, api.OK},
		{8, 0, []api.Mark{free, free, free}, api.ErrMarks},
		{8, 0, []api.Mark{free, free, free, free, free}, api.ErrMarks},
		{8, 0, nil, api.ErrMarks},
		{8, last, []api.Mark{free, free, free, free}, api.OK},
		{8, last + 1, []api.Mark{free, free, free, free}, api.ErrMarks},
		{8, math.MaxUint64, []api.Mark{free, free, free, free}, api.ErrMarks},
		{8, last, []api.Mark{m(last, 16), free, free, free}, api.OK},
		{8, last, []api.Mark{m(last+1, 16), free, free, free}, api.ErrMarks},
		{8, 0, []api.Mark{m(1, 16), free, free, free}, api.ErrMarks},
		{8, 1, []api.Mark{m(1, 16), free, free, free}, api.OK},
		{8, 1, []api.Mark{free, free, free, m(1, 16)}, api.OK},
		{8, 1, []api.Mark{free, free, free, m(2, 16)}, api.ErrMarks},
		{8, 1, []api.Mark{m(1, 15), free, free, free}, api.ErrMarks},
		{8, 1, []api.Mark{m(1, 0), free, free, free}, api.ErrMarks},
		{8, 1, []api.Mark{m(1, -16), free, free, free}, api.ErrMarks},
		{8, 1, []api.Mark{m(0, 16), free, free, free}, api.ErrMarks},
		{8, 1, []api.Mark{m(0, 1), free, free, free}, api.ErrMarks},
		{8, 1, []api.Mark{m(0, -1), free, free, free}, api.ErrMarks},
		{8, 1, []api.Mark{m(1, 1024), free, free, free}, api.OK},
		{8, 1, []api.Mark{m(1, 1025), free, free, free}, api.ErrMarks},
		{8, 1, []api.Mark{m(1, math.MaxInt), free, free, free}, api.ErrMarks},
		{8, 1, []api.Mark{m(1, 16), m(1, 16), free, free}, api.ErrMarks},
		{8, 5, []api.Mark{m(3, 16), free, m(2, 16), m(3, 40)}, api.ErrMarks},
		{8, 5, []api.Mark{m(3, 16), m(1, 99), m(5, 16), m(4, 40)}, api.OK},
		{8, 5, []api.Mark{m(2, 16), free, m(1, 900), free}, api.OK},
	} {
		l, e := segment.Open(d, c.span, c.serial, c.marks)
		if e != c.want || (l == nil) != (e != api.OK) {
			t.Errorf("5.2: Open with the span %d, the serial %d and %v = %v, %d, want %d", c.span, c.serial, c.marks, l != nil, e, c.want)
		}
	}
}

func TestOpenOfADiskWithoutSegments(t *testing.T) {
	one, _ := disk.New(1, size)
	for _, d := range []*disk.Disk{one, nil} {
		if l, e := segment.Open(d, 2, 0, nil); l != nil || e != api.ErrSize {
			t.Errorf("5.2: Open = %v, %d, want none, %d", l != nil, e, api.ErrSize)
		}
		if l, e := segment.Open(d, 1, 0, nil); l != nil || e != api.ErrSpan {
			t.Errorf("5.2: Open = %v, %d, want none, %d", l != nil, e, api.ErrSpan)
		}
	}
}

func TestOpenTakesTheState(t *testing.T) {
	d := newDisk(t)
	marks := []api.Mark{{Serial: 2, Used: 16}, {}, {Serial: 1, Used: 900}, {}}
	l := open(t, d, 5, marks...)
	tails(t, "5.2", l, tailOf(5, 0, marks...))
	l = open(t, d, 7, api.Mark{}, api.Mark{Serial: 6, Used: 1024}, api.Mark{Serial: 7, Used: 17}, api.Mark{Serial: 3, Used: 16})
	tails(t, "5.2", l, tailOf(7, 2, api.Mark{}, api.Mark{Serial: 6, Used: 1024}, api.Mark{Serial: 7, Used: 17}, api.Mark{Serial: 3, Used: 16}))
	tails(t, "5.2: nothing is used", open(t, d, 9), tailOf(9, -1))
	if d.Stats() != (api.Stats{}) {
		t.Errorf("5.2: Open has read or written: %v", d.Stats())
	}
}

// TestOpenWithoutPower: a disk that is neither read nor written needs none.
func TestOpenWithoutPower(t *testing.T) {
	d := newDisk(t)
	off(t, d)
	l := open(t, d, 5, api.Mark{Serial: 2, Used: 16})
	tails(t, "5.2", l, tailOf(5, 0, api.Mark{Serial: 2, Used: 16}))
	answers(t, "5.10", l.Rewind(tailOf(0, -1)), api.OK)
}

func TestSizeAndDisk(t *testing.T) {
	for _, c := range []struct{ sectors, size, span, want int }{{34, 128, 8, 1024}, {34, 128, 2, 256}, {34, 256, 16, 4096}, {4096, 4096, 1024, 4194304}, {6, 4096, 2, 8192}} {
		d, _ := disk.New(c.sectors, c.size)
		l, e := segment.Open(d, c.span, 0, make([]api.Mark, segment.Count(c.sectors, c.span)))
		answers(t, "5.2", e, api.OK)
		if l.Size() != c.want || l.Disk() != d {
			t.Errorf("5.2: Size = %d, want %d; Disk is the disk: %v", l.Size(), c.want, l.Disk() == d)
		}
		l.Next()
		off(t, d)
		if l.Size() != c.want || l.Disk() != d {
			t.Errorf("5.2: with the power gone: Size = %d, want %d; Disk is the disk: %v", l.Size(), c.want, l.Disk() == d)
		}
	}
}
