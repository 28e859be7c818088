package annals_test

import (
	"fmt"
	"math/bits"
	"slices"
	"testing"

	"witness/annals"
	"witness/api"
	"witness/blobs"
)

// TestGrow: from none on, leaf by leaf: the annals, the blobs that are put, and their order.
func TestGrow(t *testing.T) {
	s := wide(t)
	const many = 140
	l := leavesOf(many)
	var a api.Annal
	for i := range many {
		before, old := s.b.Len(), api.Annal{Size: a.Size, Peaks: slices.Clone(a.Peaks)}
		next, e := annals.Append(s.b, a, l[i])
		if want := annalsOf(l[:i+1]); !sameAnnals(next, want) || e != api.OK {
			t.Fatalf("13.2: Append to %d leaves: %v, %d, want %v, 0", i, next, e, want)
		}
		if puts, want := s.b.Len()-before, 1+bits.TrailingZeros(uint(i+1)); puts != want {
			t.Errorf("13.2: Append to %d leaves: it put %d blobs, want %d", i, puts, want)
		}
		if !sameAnnals(a, old) {
			t.Errorf("13.2: Append to %d leaves: these are others now", i)
		}
		if annals.Head(next) != headOf(l[:i+1]) {
			t.Errorf("13.9: the head of %d leaves", i+1)
		}
		a = next
	}
	if !slices.Equal(s.inOrder(), blobsOf(l)) {
		t.Errorf("13.2: %d blobs, or in another order than %d", s.b.Len(), len(blobsOf(l)))
	}
	for i, leaf := range l {
		s.leaf("grown", a, uint64(i), leaf)
		if body, e := s.b.Get(api.KindLeaf, leafLimb(leaf).Addr); string(body) != string(leafRecord(leaf)) || e != api.OK {
			t.Errorf("13.2: the blob of leaf %d: %x, %d", i, body, e)
		}
	}
}

// unfit are annals that do not fit.
func unfit() map[string]api.Annal {
	peaks := func(sizes ...uint64) []api.Peak {
		var l []api.Peak
		for _, n := range sizes {
			l = append(l, api.Peak{Size: n})
		}
		return l
	}
	all := func(n uint64) []api.Peak { return peaks(sizes(n)...) }
	return map[string]api.Annal{
		"no peaks":                        {Size: 1},
		"no peaks of three":               {Size: 3},
		"the last one is missing":         {Size: 3, Peaks: peaks(2)},
		"the first one is missing":        {Size: 3, Peaks: peaks(1)},
		"one of the middle is missing":    {Size: 7, Peaks: peaks(4, 1)},
		"one too many of none":            {Size: 0, Peaks: peaks(1)},
		"a peak of Size 0":                {Size: 0, Peaks: peaks(0)},
		"a peak of Size 0 behind":         {Size: 2, Peaks: peaks(2, 0)},
		"a peak of Size 0 ahead":          {Size: 2, Peaks: peaks(0, 2)},
		"one too many behind":             {Size: 2, Peaks: peaks(2, 1)},
		"one too many ahead":              {Size: 2, Peaks: peaks(4, 2)},
		"one twice":                       {Size: 2, Peaks: peaks(2, 2)},
		"two halves":                      {Size: 2, Peaks: peaks(1, 1)},
		"halves of the last one":          {Size: 6, Peaks: peaks(4, 1, 1)},
		"halves of the first one":         {Size: 4, Peaks: peaks(2, 2)},
		"the right sum of others":         {Size: 7, Peaks: peaks(3, 3, 1)},
		"the right sum, no power":         {Size: 3, Peaks: peaks(3)},
		"another order":                   {Size: 3, Peaks: peaks(1, 2)},
		"another order of three":          {Size: 7, Peaks: peaks(4, 1, 2)},
		"another one":                     {Size: 5, Peaks: peaks(4, 2)},
		"another greater one":             {Size: 5, Peaks: peaks(8, 1)},
		"a sum that wraps round":          {Size: 0, Peaks: peaks(1<<63, 1<<63)},
		"a sum that wraps round to two":   {Size: 3, Peaks: peaks(1<<63+1, 1<<63+2)},
		"full, and one is missing":        {Size: last + 1, Peaks: peaks(last)},
		"full, in another order":          {Size: last + 1, Peaks: peaks(1, last)},
		"full, and one too many":          {Size: last + 1, Peaks: peaks(last, 2, 1)},
		"one leaf too many":               {Size: last + 2, Peaks: all(last + 2)},
		"two leaves too many":             {Size: last + 3, Peaks: all(last + 3)},
		"many leaves too many":            {Size: 1 << 63, Peaks: all(1 << 63)},
		"as many leaves as there can be":  {Size: 1<<64 - 1, Peaks: all(1<<64 - 1)},
		"too many leaves, and no peaks":   {Size: 1<<64 - 1},
		"too many leaves, and some peaks": {Size: last + 2, Peaks: peaks(last, 1)},
	}
}

func TestAnnalsThatDoNotFit(t *testing.T) {
	s := wide(t)
	s.grown(leavesOf(9))
	for what, a := range unfit() {
		s.unchanged("13.2: "+what, func() {
			for _, version := range []uint64{a.Size, a.Size + 1, 0, last} {
				s.noAppend(what, a, leafOf(version), api.ErrHead)
			}
			for _, i := range []uint64{0, a.Size - 1, a.Size, a.Size + 1} {
				s.noLeaf(what, a, i, api.ErrHead)
				s.noInclusion(what, a, i, api.ErrHead)
				s.noConsistency(what, a, i, api.ErrHead)
			}
		})
	}
	s.off()
	for what, a := range unfit() {
		s.noAppend(what+", without power", a, leafOf(a.Size), api.ErrHead)
		s.noLeaf(what+", without power", a, 0, api.ErrHead)
		s.noInclusion(what+", without power", a, 0, api.ErrHead)
		s.noConsistency(what+", without power", a, 0, api.ErrHead)
	}
}

func TestAppendToFullAnnals(t *testing.T) {
	s := wide(t)
	full := s.sparse(last+1, last).annal
	s.unchanged("13.2: full annals", func() {
		for _, version := range []uint64{last + 1, last, last + 2, 0, 1<<64 - 1} {
			s.noAppend("full annals", full, leafOf(version), api.ErrLast)
		}
	})
	s.off()
	s.noAppend("full annals, without power", full, leafOf(last+1), api.ErrLast)
}

func TestAppendOfAnotherVersion(t *testing.T) {
	s := wide(t)
	for _, size := range []int{0, 1, 2, 3, 4, 7, 8, 9} {
		a := s.grown(leavesOf(size))
		s.unchanged("13.2: another version", func() {
			for _, version := range versions {
				if version != a.Size {
					s.noAppend("another version", a, leafOf(version), api.ErrLeaf)
				}
			}
			s.noAppend("the version ahead", a, leafOf(a.Size-1), api.ErrLeaf)
			s.noAppend("the next version", a, leafOf(a.Size+1), api.ErrLeaf)
		})
	}
	s.off()
	s.noAppend("without power", api.Annal{}, leafOf(1), api.ErrLeaf)
	s.noAppend("without power", s.sparse(0).annal, leafOf(0), api.ErrPower)
}

// TestAppendToGreatAnnals: the peaks' blobs are not looked at.
func TestAppendToGreatAnnals(t *testing.T) {
	n := &noise{x: 4}
	for _, size := range append(greatSizes(n), last-1<<30-1, 1<<40-1, 1<<50+1<<10-1) {
		if size == last+1 {
			continue
		}
		s := wide(t)
		a := s.sparse(size).annal
		if s.b.Len() != 0 {
			t.Fatalf("%d blobs", s.b.Len())
		}
		next, e := annals.Append(s.b, a, leafOf(size))
		puts := []api.Limb{leafLimb(leafOf(size))}
		left := len(a.Peaks)
		for bit := uint64(1); size&bit != 0; bit <<= 1 {
			left--
			puts = append(puts, forkLimb(a.Peaks[left].Limb, puts[len(puts)-1]))
		}
		want := api.Annal{Size: size + 1, Peaks: append(slices.Clone(a.Peaks[:left]), api.Peak{Size: 1 << (len(puts) - 1), Limb: puts[len(puts)-1]})}
		if !sameAnnals(next, want) || e != api.OK {
			t.Errorf("13.2: Append to %d leaves: %v, %d, want %v, 0", size, next, e, want)
		}
		var addrs []api.Addr
		for _, l := range puts {
			addrs = append(addrs, l.Addr)
		}
		if !slices.Equal(s.inOrder(), addrs) {
			t.Errorf("13.2: Append to %d leaves: %d blobs, want %d", size, s.b.Len(), len(addrs))
		}
	}
}

// fails holds that Append answers an error behind so many new blobs, and nothing else.
func (s store) fails(what string, a api.Annal, l api.Leaf, want api.Errno) int {
	s.t.Helper()
	before := s.b.Len()
	s.noAppend(what, a, l, want)
	return s.b.Len() - before
}

// TestAppendWithoutPower: it goes at the first blob, at a later one and at the last.
func TestAppendWithoutPower(t *testing.T) {
	const size = 15 // so five blobs are put
	met := map[int]bool{}
	for fuse := 0; ; fuse++ {
		s := newStore(t, 258, 128, 32)
		a := s.grown(leavesOf(size))
		s.d.Fuse(fuse)
		before := s.b.Len()
		next, e := annals.Append(s.b, a, leafOf(size))
		if e == api.OK {
			if !sameAnnals(next, annalsOf(leavesOf(size+1))) {
				t.Errorf("13.2: behind %d writes: %v", fuse, next)
			}
			break
		}
		if !isZero(next) || e != api.ErrPower || !sameAnnals(a, annalsOf(leavesOf(size))) {
			t.Errorf("13.2: the power goes behind %d writes: %v, %d", fuse, next, e)
		}
		met[s.b.Len()-before] = true
		s.on()
		if next, e = annals.Append(s.b, a, leafOf(size)); e != api.OK || !sameAnnals(next, annalsOf(leavesOf(size+1))) {
			t.Errorf("13.2: once more, with power: %v, %d", next, e)
		}
	}
	for puts := range 5 {
		if !met[puts] {
			t.Errorf("13.2: the power never went behind %d blobs", puts)
		}
	}
}

// TestAppendWithoutRoom: it ends at the first blob, at a later one and at the last.
func TestAppendWithoutRoom(t *testing.T) {
	const size = 7 // so four blobs are put
	met := map[int]bool{}
	for fill := 400; fill < 990; fill++ {
		s := newStore(t, 18, 128, 8) // two segments of 1024 bytes
		a := s.grown(leavesOf(size))
		s.put(api.KindValue, make([]byte, fill))
		before := s.b.Len()
		next, e := annals.Append(s.b, a, leafOf(size))
		switch {
		case e == api.OK:
			met[s.b.Len()-before] = true
			if !sameAnnals(next, annalsOf(leavesOf(size+1))) {
				t.Errorf("13.2: with some room: %v", next)
			}
		case !isZero(next), e != api.ErrFull, !sameAnnals(a, annalsOf(leavesOf(size))):
			t.Errorf("13.2: without room: %v, %d", next, e)
		default:
			met[s.b.Len()-before] = true
		}
	}
	for puts := range 5 {
		if !met[puts] {
			t.Errorf("13.2: there was never room for just %d blobs", puts)
		}
	}
}

// TestAppendOverDamage: a blob that is there already is read where it is put again.
func TestAppendOverDamage(t *testing.T) {
	const size = 7
	l := leavesOf(size + 1)
	puts := blobsOf(l)[len(blobsOf(l[:size])):]
	if len(puts) != 4 {
		t.Fatalf("%d blobs", len(puts))
	}
	for i, addr := range puts {
		s := wide(t)
		a := s.grown(l[:size])
		answers(t, "6.8: Begin", s.b.Begin(), api.OK)
		next, e := annals.Append(s.b, a, l[size])
		if answers(t, "13.2: Append", e, api.OK); !sameAnnals(next, annalsOf(l)) {
			t.Errorf("13.2: %v", next)
		}
		s.unchanged("13.2: once more", func() {
			if again, e := annals.Append(s.b, a, l[size]); !sameAnnals(again, next) || e != api.OK {
				t.Errorf("13.2: once more: %v, %d", again, e)
			}
		})
		s.turn(addr)
		if more := s.fails(fmt.Sprintf("blob %d is damaged", i), a, l[size], api.ErrCheck); more != 0 {
			t.Errorf("13.2: blob %d is damaged: %d blobs more", i, more)
		}
		s.forget(addr)
		for _, other := range puts[i+1:] {
			s.forget(other)
		}
		if again, e := annals.Append(s.b, a, l[size]); !sameAnnals(again, next) || e != api.OK {
			t.Errorf("13.2: where blob %d was forgotten: %v, %d", i, again, e)
		}
		answers(t, "6.8: Undo", s.b.Undo(), api.OK)
		if s.b.Len() != len(blobsOf(l[:size])) {
			t.Errorf("13.2: behind Undo there are %d blobs", s.b.Len())
		}
	}
}

// TestAppendTwice: annals go two ways, and are still what they were.
func TestAppendTwice(t *testing.T) {
	s := wide(t)
	for _, size := range []int{0, 1, 2, 3, 5, 6, 7, 8, 12} {
		l := leavesOf(size)
		a := s.grown(l)
		a.Peaks = append(make([]api.Peak, 0, len(a.Peaks)+4), a.Peaks...) // with spare room, in which both ways could be laid
		room := a.Peaks[:cap(a.Peaks)]
		for i := len(a.Peaks); i < len(room); i++ {
			room[i] = api.Peak{Size: 77}
		}
		kept := slices.Clone(room)
		ways := [][]api.Leaf{slices.Clone(l), slices.Clone(l)}
		var ends []api.Annal
		for w := range ways {
			ways[w] = append(ways[w], api.Leaf{Version: uint64(size), Label: api.Sum{byte(w), 1}})
			next, e := annals.Append(s.b, a, ways[w][size])
			answers(t, "13.2: Append", e, api.OK)
			ends = append(ends, next)
		}
		for step := range 6 {
			for w := range ways {
				leaf := api.Leaf{Version: uint64(size + 1 + step), Label: api.Sum{byte(w), 2}}
				next, e := annals.Append(s.b, ends[w], leaf)
				answers(t, "13.2: Append", e, api.OK)
				ways[w], ends[w] = append(ways[w], leaf), next
			}
		}
		for w, end := range ends {
			if !sameAnnals(end, annalsOf(ways[w])) || annals.Head(end) != annals.Over(ways[w]) {
				t.Errorf("13.2: %d leaves, way %d: %v", size, w, end)
			}
			for i, leaf := range ways[w] {
				s.leaf("two ways", end, uint64(i), leaf)
			}
		}
		if !slices.Equal(room, kept) || !sameAnnals(a, annalsOf(l)) {
			t.Errorf("13.2: annals of %d leaves are others, once they were appended to", size)
		}
	}
}

// TestNoBlobs: nothing is found where there is nothing, and there is no room.
func TestNoBlobs(t *testing.T) {
	a := annalsOf(leavesOf(3))
	over := labelsOf(leavesOf(3))
	for _, b := range []*blobs.Blobs{nil, {}} {
		s := store{t: t, b: b}
		s.noAppend("no blobs", a, leafOf(3), api.ErrFull)
		s.noAppend("no blobs", a, leafOf(4), api.ErrLeaf)
		s.noLeaf("no blobs", a, 0, api.ErrNone)
		s.noLeaf("no blobs", a, 2, api.ErrNone)
		s.noLeaf("no blobs", a, 3, api.ErrLeaf)
		s.noInclusion("no blobs", a, 0, api.ErrNone)
		s.inclusion("no blobs", a, 2, pathTo(over, 0, 3, 2))
		s.noConsistency("no blobs", a, 1, api.ErrNone)
		s.consistency("no blobs", a, 2, growthTo(over, 2, 3))
	}
}
