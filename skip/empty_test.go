package skip_test

import (
	"slices"
	"testing"

	"witness/api"
	"witness/blobs"
	"witness/skip"
)

func emptyFails(t *testing.T, what string, b *blobs.Blobs, want api.Errno) {
	t.Helper()
	x, e := skip.Empty(b)
	noTree(t, "8.1: "+what+": Empty", x, e, want)
}

func TestEmpty(t *testing.T) {
	s := wide(t)
	s.value("something else")
	x := s.saves("8.1: Empty", planOf(nil), func() (api.Tree, api.Errno) { return skip.Empty(s.b) })
	body, e := s.b.Get(api.KindTower, x.Addr)
	if !slices.Equal(body, []byte{1, 0}) || e != api.OK {
		t.Errorf("8.1: the head's blob is %x, %d, want 0100", body, e)
	}
	s.unchanged("8.1: Empty again", func() { isTree(t, "8.1: Empty again", s.empty(), api.OK, x) })
	s.holds(x, nil, "", "a")
}

// TestEmptyAmongTwins: the address is the one that blobs give.
func TestEmptyAmongTwins(t *testing.T) {
	s := wide(t)
	_, e := s.b.Log().Append(api.Frame{Kind: api.KindTower, Body: []byte{3, 1, 0}})
	answers(t, "5.4: Append", e, api.OK)
	s = s.reopened()
	want := planOf(nil).tree
	want.Addr.Nth = 3
	s.unchanged("8.1: the head is there", func() {
		x, e := skip.Empty(s.b)
		isTree(t, "8.1: the head is there", x, e, want)
	})
}

func TestEmptyWithoutPower(t *testing.T) {
	s := wide(t)
	s.off()
	emptyFails(t, "with the power gone", s.b, api.ErrPower)
	s.on()
	x := s.empty()
	s.off()
	emptyFails(t, "of a head that is there, with the power gone", s.b, api.ErrPower)
	s.on()
	s.holds(x, nil)
}

func TestEmptyAsThePowerGoes(t *testing.T) {
	for fuse := 0; !t.Failed(); fuse++ {
		s := wide(t)
		s.d.Fuse(fuse)
		if x, e := skip.Empty(s.b); e == api.OK {
			s.holds(x, nil)
			if fuse != 2 {
				t.Errorf("8.1: saved by %d writes, want a header's and a frame's", fuse)
			}
			return
		}
		emptyFails(t, "as the power goes", s.b, api.ErrPower)
	}
}

func TestEmptyWithoutRoom(t *testing.T) {
	s := narrow(t, 2) // 256 bytes, 16 of them its header
	s.value(string(make([]byte, 240-14-15)))
	emptyFails(t, "with room for all but one byte", s.b, api.ErrFull)
	s = narrow(t, 2)
	s.value(string(make([]byte, 240-14-16)))
	x := s.empty()
	s.unchanged("8.1: without room, but it is there", func() { isTree(t, "8.1: again", s.empty(), api.OK, x) })
	s.holds(x, nil)
}

func TestEmptyOfADamagedHead(t *testing.T) {
	s := wide(t)
	s.turn(s.empty().Addr)
	emptyFails(t, "of a head that is damaged", s.b, api.ErrCheck)
}

// TestNoBlobs: nothing is found where there is nothing, and there is no room.
func TestNoBlobs(t *testing.T) {
	for _, b := range []*blobs.Blobs{nil, {}} {
		s := store{t: t, b: b}
		emptyFails(t, "no blobs", b, api.ErrFull)
		for _, x := range []api.Tree{{}, planOf(nil).tree} {
			s.searchesFail("no blobs", x, "a", api.ErrTree)
			s.putFails("no blobs", x, "a", "1", api.ErrTree)
			s.deleteFails("no blobs", x, "a", api.ErrTree)
			answers(t, "8.7: no blobs: Check", skip.Check(b, x), api.ErrTree)
			s.searchesFail("no blobs", x, string(make([]byte, 1025)), api.ErrLimit)
			s.putFails("no blobs", x, string(make([]byte, 1025)), "1", api.ErrLimit)
			s.putFails("no blobs", x, "a", string(make([]byte, 65537)), api.ErrLimit)
			s.deleteFails("no blobs", x, string(make([]byte, 1025)), api.ErrLimit)
		}
	}
}
