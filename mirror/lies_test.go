package mirror_test

import (
	"bytes"
	"fmt"
	"maps"
	"math/rand/v2"
	"slices"
	"testing"

	"witness/annals"
	"witness/api"
	"witness/codec"
	"witness/mirror"
)

// liar is another side that is honest mostly.
type liar struct {
	*story
	heard map[int][][]byte // what it said before, by kinds
}

// lies is an answer in the place of an honest one.
func (l *liar) lies(honest []byte) []byte {
	r := l.r
	x, _ := codec.ReadMessage(honest)
	b := bytes.Clone(honest)
	switch r.IntN(9) {
	case 0:
		b[r.IntN(len(b))] ^= byte(1 + r.IntN(255))
	case 1:
		b = b[:r.IntN(len(b))]
	case 2:
		b = append(b, byte(r.IntN(256)))
	case 3:
		b = no([]api.Errno{api.ErrProof, api.ErrProof, api.ErrVersion, 0, 999}[r.IntN(5)])
	case 4: // of another question
		other := questions()
		b = mirror.Serve(l.v, say(other[r.IntN(len(other))]))
	case 5: // of long ago
		if old := l.heard[x.Kind]; len(old) > 0 {
			b = old[r.IntN(len(old))]
		}
	default:
		b = say(l.bent(x))
	}
	return b
}

// bent is a message with something in it changed.
func (l *liar) bent(x api.Message) api.Message {
	r := l.r
	switch x.Kind {
	case api.SayHead:
		switch r.IntN(6) {
		case 0:
			x.Version += uint64(r.IntN(3)) - 1
		case 1:
			x.Head.Size += uint64(r.IntN(3)) - 1
		case 2:
			x.Version, x.Head.Size = x.Version+1, x.Head.Size+1
		case 3:
			x.Label[r.IntN(32)]++
		case 4:
			x.Count += uint64(r.IntN(3))
		case 5:
			x.Head.Label[r.IntN(32)]++
		}
		x.Version, x.Head.Size = min(x.Version, api.MaxNumber), min(x.Head.Size, api.MaxNumber+1)
	case api.SayLeaf, api.SayExtends:
		if n := len(x.Path); n > 0 && r.IntN(2) == 0 {
			x.Path[r.IntN(n)][0]++
		} else {
			x.Path = append(x.Path, api.Sum{})
		}
	case api.SayDelta:
		x.Changes = bentChanges(r, x.Changes)
	case api.SayProof:
		if n := len(x.Body); n > 0 {
			x.Body[r.IntN(n)]++
		}
	}
	return x
}

func bentChanges(r *rand.Rand, l []api.Change) []api.Change {
	for i := range l {
		l[i].Had, l[i].Old = l[i].Had || r.IntN(2) == 0, []byte("anything")
	}
	switch n := len(l); {
	case n > 0 && r.IntN(4) == 0:
		l = slices.Delete(l, r.IntN(n), n)
	case n > 0 && r.IntN(3) == 0:
		l = append(l, l[r.IntN(n)])
	case n > 0 && r.IntN(3) == 0:
		l[r.IntN(n)].New = []byte("else")
	case r.IntN(2) == 0:
		l = append(l, put("a", "more"))
	default:
		r.Shuffle(n, func(i, j int) { l[i], l[j] = l[j], l[i] })
	}
	return l
}

// TestLies: whatever is heard, what a mirror does is what the model does; what ends well is something that the annals show, and a round that fails has changed nothing.
func TestLies(t *testing.T) {
	t.Parallel()
	met := map[string]int{}
	for seed := range uint64(16) {
		l := &liar{newStory(t, seed), map[int][][]byte{}}
		w := some(t, 2)
		p := newPair(t, w, api.Head{})
		for range 60 {
			for range l.r.IntN(3) {
				l.goesOn()
			}
			for err := error(nil); err == nil; {
				_, err = w.Compact()
			}
			met[told(l.plays(p))]++
		}
	}
	for _, k := range []string{"nil", told(api.ErrMessage), told(api.ErrRefused), told(api.ErrTrust)} {
		if met[k] < 30 {
			t.Errorf("18.8: rounds by their ends: %v", met)
		}
	}
}

// plays is a round with lies in it: what ended it.
func (l *liar) plays(p *pair) error {
	t := l.t
	trusted, before := p.m.Trusted(), everything(t, p.w)
	p.start()
	var leaf []api.Sum
	for p.x.question != nil {
		q := p.asked()
		honest := mirror.Serve(l.v, q)
		b := honest
		if l.r.IntN(5) == 0 {
			b = l.lies(honest)
		}
		if x, e := codec.ReadMessage(b); e == api.OK {
			l.heard[x.Kind] = append(l.heard[x.Kind], b)
			if p.x.question.Kind == api.AskLeaf {
				leaf = x.Path
			}
		}
		err := p.m.Hear(b)
		is(t, fmt.Sprintf("18.5: Hear of %.80x at %x", b, q), told(err), told(p.x.hear(b)))
		p.alike("lies")
		if err != nil {
			if p.m.Trusted() != trusted || everything(t, p.w) != before {
				t.Fatalf("18.8: a round that fails with %s changes something", told(err))
			}
			return err
		}
	}
	n, _ := p.m.Done()
	h, own := p.m.Trusted(), newest(t, p.w)
	if e := annals.Included(h, n, api.Leaf{Version: n, Label: own.Tree.Label}, leaf); e != api.OK {
		t.Fatalf("18.8: the copy's label is not shown under the trusted head: %d", e)
	}
	// the other side's annals have not two heads of one size: so it is one of those that were, and its map
	if h != l.heads[n] || !maps.Equal(mapOf(t, p.w), l.maps[n]) || h.Size < trusted.Size {
		t.Fatalf("18.8: the copy is not version %d", n)
	}
	return nil
}

// TestNoise: any bytes at any question.
func TestNoise(t *testing.T) {
	t.Parallel()
	r := noise(3)
	p, v := scene(t, api.AskHead)
	trusted, before := p.m.Trusted(), everything(t, p.w)
	for i := range 4000 {
		p.start()
		p.until(v, askKinds[i%len(askKinds)])
		b := make([]byte, r.IntN(60))
		for i := range b {
			b[i] = byte(r.IntN(256) >> r.IntN(8))
		}
		if len(b) > 0 && r.IntN(4) > 0 {
			b[0] = byte(p.x.question.Kind + 10)
		}
		p.hears("noise", b)
		if p.m.Trusted() != trusted {
			t.Fatalf("18.8: %x is trusted", b)
		}
	}
	is(t, "18.8: the copy", everything(t, p.w), before)
}
