package pages_test

import (
	"fmt"
	"slices"
	"testing"

	"witness/annals"
	"witness/api"
	"witness/blobs"
	"witness/codec"
	"witness/disk"
	"witness/node"
	"witness/pages"
	"witness/segment"
	"witness/skip"
)

const (
	size     = 128
	span     = 8
	segments = 6
)

func must(t *testing.T, what string, e api.Errno) {
	t.Helper()
	if e != api.OK {
		t.Fatalf("%s: %d", what, e)
	}
}

func newDisk(t *testing.T, sectors int) *disk.Disk {
	t.Helper()
	d, e := disk.New(sectors, size)
	must(t, "3.1: New", e)
	return d
}

// super is a superblock that fits a disk.
func super(d *disk.Disk, seq uint64) api.Super {
	return api.Super{Seq: seq, Size: d.Size(), Sectors: d.Sectors(), Span: span, Page: api.Place{Seg: 1, At: 20, Len: 30}}
}

func write(t *testing.T, d *disk.Disk, slot int, s api.Super) {
	t.Helper()
	must(t, "3.4: Write", d.Write(slot, codec.Super(s, d.Size())))
}

// TestWhole: the superblocks of the slots that are whole, the one that holds first.
func TestWhole(t *testing.T) {
	d := newDisk(t, 2+segments*span)
	is := func(what string, want ...api.Super) {
		t.Helper()
		l, e := pages.Whole(d)
		if !slices.Equal(l, want) || e != api.OK {
			t.Errorf("14.2: %s: %v, %d, want %v", what, l, e, want)
		}
		s, e := pages.Holding(d)
		if len(want) == 0 && (s != api.Super{} || e != api.ErrMagic) || len(want) > 0 && (s != want[0] || e != api.OK) {
			t.Errorf("14.2: %s: %v, %d holds", what, s, e)
		}
	}
	is("zeros")
	two, three := super(d, 2), super(d, 3)
	write(t, d, 0, two)
	is("slot 0 alone", two)
	write(t, d, 1, three)
	is("both", three, two)
	one := super(d, 1)
	write(t, d, 1, one)
	is("an older one in slot 1", two, one)
	write(t, d, 0, three)
	is("a Seq that is not its slot's", one)
	for _, wrong := range []func(s *api.Super){func(s *api.Super) { s.Size *= 2 }, func(s *api.Super) { s.Sectors-- }} {
		s := super(d, 8)
		wrong(&s)
		write(t, d, 0, s)
		is("another disk's", one)
	}
	must(t, "3.8: Rot", d.Rot(1, 100, 1))
	is("none")
	write(t, d, 0, two)
	d.Fuse(0)
	is("the power is on", two)
	d.Flush()
	if l, e := pages.Whole(d); l != nil || e != api.ErrPower {
		t.Errorf("14.2: without power: %v, %d", l, e)
	}
	if s, e := pages.Holding(d); s != (api.Super{}) || e != api.ErrPower {
		t.Errorf("14.2: without power: %v, %d", s, e)
	}
	d = newDisk(t, 1)
	is("one sector")
	s := super(d, 2)
	write(t, d, 0, s)
	is("one sector with a superblock", s)
	d = nil
	is("no disk")
}

func TestSlotOf(t *testing.T) {
	for seq, want := range map[uint64]int{0: 0, 1: 1, 2: 0, api.MaxNumber: 0, api.MaxNumber - 1: 1} {
		if got := pages.SlotOf(seq); got != want {
			t.Errorf("14.2: SlotOf(%d) = %d", seq, got)
		}
	}
}

func TestBounds(t *testing.T) {
	for n, want := range map[int][2]bool{-1: {}, 0: {}, 1: {false, true}, 2: {true, true}, 64: {true, true}, 65: {true, false}, 1024: {true, false}, 1025: {}} {
		if got := [2]bool{pages.SpanFits(n), pages.WindowFits(n)}; got != want {
			t.Errorf("14.1: %d: %v, want %v", n, got, want)
		}
	}
}

// state is a log with a page of version 0, which is its last frame.
func state(t *testing.T) (*disk.Disk, *segment.Log, api.Super, api.Page) {
	t.Helper()
	d := newDisk(t, 2+segments*span)
	log, e := segment.Open(d, span, 0, make([]api.Mark, segments))
	must(t, "5.2: Open", e)
	b, e := blobs.Open(log)
	must(t, "6.2: Open", e)
	tree, e := skip.Empty(b)
	must(t, "8.1: Empty", e)
	a, e := annals.Append(b, api.Annal{}, api.Leaf{Label: tree.Label})
	must(t, "13.2: Append", e)
	p := api.Page{Window: 2, Serial: log.Tail().Serial, Marks: log.Tail().Marks, Versions: []api.Version{{Tree: tree}}, Annal: a}
	place, e := log.Append(api.Frame{Kind: api.KindPage, Body: codec.Page(p)})
	must(t, "5.4: Append", e)
	s := super(d, 1)
	s.Page = place
	return d, log, s, p
}

// TestPage: the page of a superblock, and the log behind its frame.
func TestPage(t *testing.T) {
	d, log, s, want := state(t)
	p, e := pages.Of(d, s)
	if fmt.Sprint(p) != fmt.Sprint(want) || e != api.OK {
		t.Errorf("14.2: the page is %v, %d, want %v", p, e, want)
	}
	l, e := pages.Log(d, s, p)
	must(t, "14.2: Log", e)
	if fmt.Sprint(l.Tail()) != fmt.Sprint(log.Tail()) || l.Disk() != d {
		t.Errorf("14.2: the tail is %v, want %v", l.Tail(), log.Tail())
	}
	if fmt.Sprint(p) != fmt.Sprint(want) {
		t.Error("0.4: Log changes the page")
	}
	for _, wrong := range []func(s *api.Super){
		func(s *api.Super) { s.Span = 1 },
		func(s *api.Super) { s.Page.Seg = segments },
		func(s *api.Super) { s.Page.Seg = 1 },
		func(s *api.Super) { s.Page.At-- },
		func(s *api.Super) { s.Page.Len++ },
		func(s *api.Super) { s.Page.Len = 1<<32 - 1 },
	} {
		x := s
		wrong(&x)
		if p, e := pages.Of(d, x); e != api.ErrPage || len(p.Marks) > 0 {
			t.Errorf("14.2: %v: %v, %d", x, p, e)
		}
	}
	p.Serial = 0
	if l, e := pages.Log(d, s, p); l != nil || e != api.ErrMarks {
		t.Errorf("14.2: Log = %d", e)
	}
	d.Fuse(0)
	d.Flush()
	if _, e := pages.Of(d, s); e != api.ErrPower {
		t.Errorf("14.2: without power: %d", e)
	}
}

func addr(n int) api.Addr { return api.Addr{Sum: api.Sum{byte(n)}, Nth: 1} }

// TestThrough: the order of 14.4.
func TestThrough(t *testing.T) {
	page := api.Page{
		Versions: []api.Version{{Tree: api.Tree{Addr: addr(1)}}, {Tree: api.Tree{Addr: addr(2)}}},
		Annal:    api.Annal{Size: 5, Peaks: []api.Peak{{Size: 4, Limb: api.Limb{Addr: addr(3)}}, {Size: 1, Limb: api.Limb{Addr: addr(4)}}}},
	}
	head := api.Tower{Head: true, Value: addr(99), Kids: []api.Kid{{Addr: addr(5)}, {Addr: addr(6)}}}
	tower := api.Tower{Value: addr(7), Kids: []api.Kid{{Addr: addr(8)}}}
	fork := api.Fork{Left: api.Limb{Addr: addr(9)}, Right: api.Limb{Addr: addr(10)}}
	small := api.Fork{Left: api.Limb{Addr: addr(11)}, Right: api.Limb{Addr: addr(12)}}
	look := func(l *[]string, most int) func(p pages.Part) ([]pages.Part, bool) {
		return func(p pages.Part) ([]pages.Part, bool) {
			*l = append(*l, fmt.Sprintf("%d:%d:%d", p.Addr.Sum[0], p.Kind, p.Leaves))
			var needs []pages.Part
			switch p.Addr {
			case addr(1):
				needs = pages.OfTower(head)
			case addr(5):
				needs = pages.OfTower(tower)
			case addr(3):
				needs = pages.OfFork(fork, p.Leaves)
			case addr(10):
				needs = pages.OfFork(small, p.Leaves)
			}
			return needs, len(*l) < most
		}
	}
	want := []string{"1:2:0", "5:2:0", "7:1:0", "8:2:0", "6:2:0", "2:2:0", "3:4:4", "9:4:2", "10:4:2", "11:3:1", "12:3:1", "4:3:1"}
	for most := 1; most <= len(want)+1; most++ {
		var l []string
		pages.Through(page, look(&l, most))
		if !slices.Equal(l, want[:min(most, len(want))]) {
			t.Errorf("14.4: up to %d: %v, want %v", most, l, want)
		}
	}
	if node.Count(head) != 0 || len(head.Kids) != 2 {
		t.Error("0.4: what is handed in is changed")
	}
	pages.Through(api.Page{}, func(pages.Part) ([]pages.Part, bool) {
		t.Error("14.4: an empty page needs nothing")
		return nil, true
	})
}
