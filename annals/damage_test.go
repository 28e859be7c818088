package annals_test

import (
	"fmt"
	"slices"
	"testing"

	"witness/api"
)

// look holds that all calls on annals with these leaves answer what they should, or an error if one of the blobs on their way is bad.
func (s store) look(what string, l []api.Leaf, bad func(way []api.Addr) api.Errno) {
	s.t.Helper()
	a, over, n := annalsOf(l), labelsOf(l), uint64(len(l))
	for i := range n {
		forks := forksTo(l, i)
		if e := bad(append(slices.Clone(forks), leafLimb(l[i]).Addr)); e == api.OK {
			s.leaf(what, a, i, l[i])
		} else {
			s.noLeaf(what, a, i, e)
		}
		if e := bad(forks); e == api.OK {
			s.inclusion(what, a, i, pathTo(over, 0, n, i))
		} else {
			s.noInclusion(what, a, i, e)
		}
	}
	for m := range n + 1 {
		if e := bad(forksFrom(l, m)); e == api.OK {
			s.consistency(what, a, m, growthTo(over, m, n))
		} else {
			s.noConsistency(what, a, m, e)
		}
	}
}

// anyOf is an error, if that blob is on the way.
func anyOf(addr api.Addr, e api.Errno) func(way []api.Addr) api.Errno {
	return func(way []api.Addr) api.Errno {
		if slices.Contains(way, addr) {
			return e
		}
		return api.OK
	}
}

// TestOneBlobIsBad: it counts where it is on the way, and nowhere else.
func TestOneBlobIsBad(t *testing.T) {
	for _, size := range []int{1, 2, 3, 8, 11, 15, 16, 21} {
		l := leavesOf(size)
		for i, addr := range blobsOf(l) {
			s := wide(t)
			s.grown(l)
			s.turn(addr)
			s.look(fmt.Sprintf("blob %d is damaged", i), l, anyOf(addr, api.ErrCheck))
			s.forget(addr)
			s.look(fmt.Sprintf("blob %d is not there", i), l, anyOf(addr, api.ErrNone))
		}
	}
}

// TestTwoBlobsAreBad: the upper one is met first.
func TestTwoBlobsAreBad(t *testing.T) {
	l := leavesOf(11)
	all := blobsOf(l)
	for i, one := range all {
		for j, two := range all {
			if i == j {
				continue
			}
			s := wide(t)
			s.grown(l)
			s.turn(one)
			s.forget(two)
			s.look(fmt.Sprintf("blob %d is damaged, %d is not there", i, j), l, func(way []api.Addr) api.Errno {
				for _, a := range way {
					switch a {
					case one:
						return api.ErrCheck
					case two:
						return api.ErrNone
					}
				}
				return api.OK
			})
		}
	}
}

// TestOnlyTheWayIsRead: for a path no leaf, and nothing that lies beside the way.
func TestOnlyTheWayIsRead(t *testing.T) {
	l := leavesOf(21)
	a, over, n := annalsOf(l), labelsOf(l), uint64(len(l))
	only := func(way []api.Addr) store {
		s := wide(t)
		s.grown(l)
		s.b.Keep(way)
		if s.b.Len() != len(way) {
			t.Fatalf("6.7: %d blobs, want %d", s.b.Len(), len(way))
		}
		return s
	}
	for i := range n {
		way := forksTo(l, i)
		s := only(way)
		s.inclusion("the way alone", a, i, pathTo(over, 0, n, i))
		s.noLeaf("the way alone", a, i, api.ErrNone)
		s = only(append(way, leafLimb(l[i]).Addr))
		s.leaf("the way alone", a, i, l[i])
	}
	for m := range n + 1 {
		s := only(forksFrom(l, m))
		s.consistency("the way alone", a, m, growthTo(over, m, n))
	}
}

// reads is how many sectors a call reads.
func (s store) reads(call func()) uint64 {
	before := s.d.Stats().Reads
	call()
	return s.d.Stats().Reads - before
}

// TestNothingElseIsRead: each blob on the way once, and none besides.
func TestNothingElseIsRead(t *testing.T) {
	l := leavesOf(21)
	s := wide(t)
	a, over, n := s.grown(l), labelsOf(l), uint64(len(l))
	once := func(what string, kind byte, way []api.Addr, call func()) {
		t.Helper()
		want := s.reads(func() {
			for i, addr := range way {
				of := byte(api.KindFork)
				if i == len(way)-1 {
					of = kind
				}
				_, e := s.b.Get(of, addr)
				answers(t, "6.4: Get", e, api.OK)
			}
		})
		if got := s.reads(call); got != want {
			t.Errorf("13.5: %s: it reads %d sectors, want %d", what, got, want)
		}
	}
	for i := range n {
		forks := forksTo(l, i)
		once("Inclusion", api.KindFork, forks, func() { s.inclusion("counted", a, i, pathTo(over, 0, n, i)) })
		once("Leaf", api.KindLeaf, append(forks, leafLimb(l[i]).Addr), func() { s.leaf("counted", a, i, l[i]) })
	}
	for m := range n + 1 {
		once("Consistency", api.KindFork, forksFrom(l, m), func() { s.consistency("counted", a, m, growthTo(over, m, n)) })
	}
}

func TestWithoutPower(t *testing.T) {
	for _, size := range []int{0, 1, 2, 3, 7, 8, 11, 21} {
		l := leavesOf(size)
		s := wide(t)
		s.grown(l)
		s.off()
		s.look("without power", l, func(way []api.Addr) api.Errno {
			if len(way) > 0 {
				return api.ErrPower
			}
			return api.OK
		})
		s.on()
		s.look("with power again", l, func([]api.Addr) api.Errno { return api.OK })
	}
}

// TestBlobsThatAreOthers: of another kind, or with a body that is no record; each at each place of a way.
func TestBlobsThatAreOthers(t *testing.T) {
	leaf, fork := leafRecord(leafOf(0)), forkRecord(api.Fork{})
	type other struct {
		kind byte
		body []byte
		e    api.Errno
	}
	forLeaf := map[string]other{
		"a fork":             {api.KindFork, fork, api.ErrKind},
		"a leaf's as a fork": {api.KindFork, leaf, api.ErrKind},
		"a value":            {api.KindValue, leaf, api.ErrKind},
		"a tower":            {api.KindTower, []byte{1, 0}, api.ErrKind},
		"too short":          {api.KindLeaf, leaf[:32], api.ErrShort},
		"nothing":            {api.KindLeaf, nil, api.ErrShort},
		"too long":           {api.KindLeaf, append(slices.Clone(leaf), 0), api.ErrTrail},
		"a version too high": {api.KindLeaf, leafRecord(api.Leaf{Version: last + 1}), api.ErrLong},
		"no number":          {api.KindLeaf, cat([]byte{0x80, 0}, make([]byte, 32)), api.ErrForm},
	}
	forFork := map[string]other{
		"a leaf":             {api.KindLeaf, leaf, api.ErrKind},
		"a fork's as a leaf": {api.KindLeaf, fork, api.ErrKind},
		"a value":            {api.KindValue, fork, api.ErrKind},
		"too short":          {api.KindFork, fork[:129], api.ErrShort},
		"nothing":            {api.KindFork, nil, api.ErrShort},
		"too long":           {api.KindFork, append(slices.Clone(fork), 0), api.ErrTrail},
	}
	s := wide(t)
	n := &noise{x: 9}
	// over lays forks over a part, which is the leaf i of 1 << high.
	over := func(a api.Addr, high int, i uint64) api.Annal {
		limb := api.Limb{Addr: a, Label: n.sum()}
		for level := range high {
			f := api.Fork{Left: limb, Right: api.Limb{Label: n.sum()}}
			if i>>level&1 == 1 {
				f.Left, f.Right = f.Right, f.Left
			}
			limb = api.Limb{Addr: s.put(api.KindFork, forkRecord(f)), Label: n.sum()}
		}
		return api.Annal{Size: 1 << high, Peaks: []api.Peak{{Size: 1 << high, Limb: limb}}}
	}
	for what, o := range forLeaf {
		for high := range 4 {
			for i := range uint64(1) << high {
				a := over(s.put(o.kind, o.body), high, i)
				s.noLeaf(what, a, i, o.e)
			}
		}
	}
	for what, o := range forFork {
		for high := range 4 {
			for i := range uint64(1) << high {
				a := over(s.put(o.kind, o.body), high, i)
				a.Size, a.Peaks[0].Size = a.Size*2, a.Peaks[0].Size*2 // the part is two leaves now
				for _, leaf := range []uint64{2 * i, 2*i + 1} {
					s.noLeaf(what, a, leaf, o.e)
					s.noInclusion(what, a, leaf, o.e)
				}
				s.noConsistency(what, a, 2*i+1, o.e)
			}
		}
	}
}
