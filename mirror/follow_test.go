package mirror_test

import (
	"errors"
	"fmt"
	"maps"
	"math/rand/v2"
	"strings"
	"testing"

	"witness/api"
	"witness/mirror"
	"witness/vault"
)

// story is another side that goes on, and all maps and heads that it ever had.
type story struct {
	t     *testing.T
	r     *rand.Rand
	v     *vault.Vault
	maps  []map[string]string
	heads []api.Head
}

func newStory(t *testing.T, seed uint64) *story {
	t.Helper()
	s := &story{t: t, r: noise(seed), v: some(t, 1+int(seed)%5)}
	s.note()
	return s
}

func (s *story) note() {
	s.maps, s.heads = append(s.maps, mapOf(s.t, s.v)), append(s.heads, headOf(s.t, s.v))
}

// someEdits are edits of few keys, so that maps come again.
func someEdits(r *rand.Rand) []api.Edit {
	var l []api.Edit
	for range 1 + r.IntN(4) {
		key := []string{"", "\x00", "a", "a\x00", "b", "ba", "\xff", "\xff\xff", letters("k", api.MaxKey)}[r.IntN(9)]
		if r.IntN(3) == 0 {
			l = append(l, gone(key))
		} else {
			l = append(l, edit(key, []string{"", "1", "2", letters("v", r.IntN(300))}[r.IntN(4)]))
		}
	}
	return l
}

// goesOn is something that the other side does.
func (s *story) goesOn() {
	s.t.Helper()
	switch s.r.IntN(8) {
	case 0:
		must(s.t, "16.10: Retain", s.v.Retain(1+s.r.IntN(6)))
	case 1:
		s.v.Compact()
	default:
		commits(s.t, s.v, someEdits(s.r)...)
		s.note()
	}
}

// TestFollowed: an honest other side is followed, whatever its window has dropped, and whatever others do to the copy, from any of its heads.
func TestFollowed(t *testing.T) {
	t.Parallel()
	met := map[string]int{}
	for seed := range uint64(12) {
		s := newStory(t, seed)
		w := some(t, 1+int(seed)%3)
		p := newPair(t, w, api.Head{})
		for range 25 {
			for range s.r.IntN(5) {
				s.goesOn()
			}
			switch s.r.IntN(6) {
			case 0:
				commits(t, w, someEdits(s.r)...)
				p.x.copied, p.x.versions = mapOf(t, w), p.x.versions+1
			case 1:
				must(t, "16.10: Retain", w.Retain(1+s.r.IntN(3)))
			case 2: // somebody else begins where this one has come to, with a head of long ago
				p = newPair(t, w, s.heads[s.r.IntN(len(s.heads))])
			}
			for err := error(nil); err == nil; {
				_, err = w.Compact()
			}
			was, done := p.m.Trusted().Size, newest(t, w).Number
			p.start()
			asked := ""
			for p.x.question != nil {
				asked += kinds[p.x.question.Kind] + " "
				p.hears("an honest answer", mirror.Serve(s.v, p.asked()))
			}
			met[asked]++
			followed(t, fmt.Sprint("seed ", seed), p.m, w, s.v)
			if n, _ := p.m.Done(); n+1 != uint64(len(s.maps)) || !maps.Equal(mapOf(t, w), s.maps[n]) || p.m.Trusted() != s.heads[n] {
				t.Fatalf("18.9: seed %d: the copy is not version %d", seed, n)
			}
			if asked == "head leaf " || asked == "head extends leaf " {
				if newest(t, w).Number != done {
					t.Fatal("18.10: something was committed")
				}
			}
			if (was == 0 || was == uint64(len(s.maps))) == strings.Contains(asked, "extends") {
				t.Fatalf("18.5: from Size %d to %d: %s", was, len(s.maps), asked)
			}
		}
	}
	for _, l := range []string{"head leaf ", "head extends leaf ", "head leaf proof ", "head extends leaf delta ", "head extends leaf delta proof "} {
		if met[l] < 5 {
			t.Errorf("18.9: rounds by their questions: %v", met)
		}
	}
}

// TestWritesMeanwhile: the other side writes within a round: it ends well with a version that there was, or fails with ErrRefused or ErrTrust.
func TestWritesMeanwhile(t *testing.T) {
	t.Parallel()
	met := map[string]int{}
	for seed := range uint64(12) {
		s := newStory(t, seed)
		w := some(t, 2)
		p := newPair(t, w, api.Head{})
		for range 40 {
			for range s.r.IntN(3) {
				s.goesOn()
			}
			for err := error(nil); err == nil; {
				_, err = w.Compact()
			}
			trusted, before := p.m.Trusted(), everything(t, w)
			p.start()
			var err error
			for p.x.question != nil && err == nil {
				kind := p.x.question.Kind
				b := mirror.Serve(s.v, p.asked())
				if kind == api.AskProof && s.r.IntN(2) == 0 {
					b = no(api.ErrProof)
				}
				if s.r.IntN(3) == 0 {
					s.goesOn()
				}
				err = p.m.Hear(b)
				is(t, "18.9: Hear", told(err), told(p.x.hear(b)))
				p.alike("the other side writes")
			}
			met[told(err)]++
			if err == nil {
				n, _ := p.m.Done()
				if !maps.Equal(mapOf(t, w), s.maps[n]) || p.m.Trusted() != s.heads[n] {
					t.Fatalf("18.9: the copy is not version %d", n)
				}
				continue
			}
			if !errors.Is(err, api.ErrRefused) && !errors.Is(err, api.ErrTrust) || p.m.Trusted() != trusted || everything(t, w) != before {
				t.Fatalf("18.9: %s", told(err))
			}
		}
	}
	if met["nil"] < 20 || met[told(api.ErrRefused)] < 5 || met[told(api.ErrTrust)] < 20 {
		t.Errorf("18.9: rounds by their ends: %v", met)
	}
}

// TestLongProofs: a map whose proof is longer than MaxProof, and so is each half's; and a delta that is longer than MaxMessage.
func TestLongProofs(t *testing.T) {
	t.Parallel()
	_, v := wide(t, 30, 3)
	_, w := wide(t, 30, 3)
	whole := letters("v", api.MaxValue)
	m := mirror.New(w, api.Head{})
	is(t, "18.9: a round", round(t, m, v), "head leaf nil")
	l := many(150, whole)
	for i := range 70 {
		l = append(l, edit(string(rune('0'+i)), whole))
	}
	commits(t, v, l...)
	got := round(t, m, v)
	if !strings.HasPrefix(got, "head extends leaf delta proof proof proof ") || !strings.HasSuffix(got, " nil") {
		t.Errorf("18.9: %s", got)
	}
	followed(t, "long proofs", m, w, v)
	if n := newest(t, w).Number; n != 1 {
		t.Errorf("18.7: the copy is version %d", n)
	}
	commits(t, v, edit("k00077", "short"))
	is(t, "18.9: the next round", round(t, m, v), "head extends leaf delta nil")
	followed(t, "a short delta", m, w, v)
}

// TestItself: a vault that is its own mirror has all already.
func TestItself(t *testing.T) {
	d, v := store(t, 40, 3)
	commits(t, v, edit("a", "1"))
	has := whatDiskHas(d)
	m := mirror.New(v, api.Head{})
	is(t, "18.10: a round", round(t, m, v), "head leaf nil")
	followed(t, "itself", m, v, v)
	is(t, "18.10: the disk", whatDiskHas(d), has)
}

// TestNothingNew: two questions, or three, and nothing is committed.
func TestNothingNew(t *testing.T) {
	v := threeVersions(t)
	d, w := store(t, 40, 3)
	m := mirror.New(w, api.Head{})
	is(t, "18.9: a round", round(t, m, v), "head leaf proof nil")
	has, before := whatDiskHas(d), everything(t, w)
	for range 3 {
		is(t, "18.10: a round", round(t, m, v), "head leaf nil")
		followed(t, "nothing new", m, w, v)
	}
	commits(t, v, gone("nothing")) // another version with the same map
	is(t, "18.10: a round", round(t, m, v), "head extends leaf nil")
	followed(t, "the same map again", m, w, v)
	commits(t, v, edit("a", "2"))
	commits(t, v, edit("a", "1"))
	is(t, "18.10: a round", round(t, m, v), "head extends leaf nil")
	followed(t, "the same map at last", m, w, v)
	m = mirror.New(w, api.Head{}) // nothing is trusted
	is(t, "18.10: a round", round(t, m, v), "head leaf nil")
	followed(t, "from Size 0", m, w, v)
	is(t, "18.10: the disk", whatDiskHas(d), has)
	is(t, "18.10: the copy", everything(t, w), before)
}
