package mirror_test

import (
	"testing"

	"witness/annals"
	"witness/api"
	"witness/mirror"
	"witness/vault"
)

// scene is a pair of which a round has a question of a kind, and the other side: the copy has followed it up to version 2 of 4.
func scene(t *testing.T, kind int) (*pair, *vault.Vault) {
	t.Helper()
	v, w := some(t, 9), some(t, 9)
	commits(t, v, edit("a", "1"), edit("c", "3"))
	commits(t, v, edit("b", "2"), edit("", "none"))
	p := newPair(t, w, api.Head{})
	p.round(v)
	followed(t, "the scene", p.m, w, v)
	commits(t, v, edit("d", "4"))
	commits(t, v, gone("a"), edit("b", ""), edit("e", "5"))
	p.start()
	p.until(v, kind)
	return p, v
}

// until lets a vault answer, until the question is of a kind; deltas are refused, where proofs are wanted.
func (p *pair) until(v *vault.Vault, kind int) {
	p.t.Helper()
	for p.x.question.Kind != kind {
		b := mirror.Serve(v, p.asked())
		if kind == api.AskProof && p.x.question.Kind == api.AskDelta {
			b = no(api.ErrVersion)
		}
		if !p.hears("an honest answer", b) {
			p.t.Fatal("18.9: the round is over")
		}
	}
}

// rest lets a vault answer to the end of the round.
func (p *pair) rest(v *vault.Vault) {
	p.t.Helper()
	for p.hears("an honest answer", mirror.Serve(v, p.asked())) {
	}
}

func (p *pair) round(v *vault.Vault) {
	p.t.Helper()
	p.start()
	p.rest(v)
}

// lost holds that a round has failed with an error, and that an honest one is followed behind it.
func (p *pair) lost(what string, b []byte, want api.Errno, v *vault.Vault) {
	p.t.Helper()
	trusted, before := p.m.Trusted(), everything(p.t, p.w)
	fails(p.t, "18.5: "+what, p.m.Hear(b), want)
	fails(p.t, "the model: "+what, p.x.hear(b), want)
	p.alike(what)
	idle(p.t, what, p.m)
	if n, ok := p.m.Done(); n != 0 || ok || p.m.Trusted() != trusted {
		p.t.Fatalf("18.5: %s: Done = %d, %v, Trusted = %v", what, n, ok, p.m.Trusted())
	}
	is(p.t, "18.8: the copy behind "+what, everything(p.t, p.w), before)
	if v != nil {
		p.round(v)
		followed(p.t, what, p.m, p.w, v)
	}
}

// goesOn holds that a round goes on with a question.
func (p *pair) goesOn(what string, b []byte, want api.Message) {
	p.t.Helper()
	trusted, before := p.m.Trusted(), everything(p.t, p.w)
	must(p.t, "18.5: "+what, p.m.Hear(b))
	must(p.t, "the model: "+what, p.x.hear(b))
	p.alike(what)
	asks(p.t, "18.5: "+what, p.m, want)
	if n, ok := p.m.Done(); n != 0 || ok || p.m.Trusted() != trusted {
		p.t.Fatalf("18.2: %s: Done = %d, %v, Trusted = %v", what, n, ok, p.m.Trusted())
	}
	is(p.t, "18.5: the copy behind "+what, everything(p.t, p.w), before)
}

// endsWell holds that a round ends well with a version.
func (p *pair) endsWell(what string, b []byte, version uint64, h api.Head) {
	p.t.Helper()
	must(p.t, "18.5: "+what, p.m.Hear(b))
	must(p.t, "the model: "+what, p.x.hear(b))
	p.alike(what)
	idle(p.t, what, p.m)
	if n, ok := p.m.Done(); n != version || !ok || p.m.Trusted() != h {
		p.t.Fatalf("18.7: %s: Done = %d, %v, Trusted = %v", what, n, ok, p.m.Trusted())
	}
}

// made is annals that are made up: the other side may say what it likes in them.
type made []api.Leaf

func madeOf(labels ...api.Sum) made {
	var l made
	for i, label := range labels {
		l = append(l, api.Leaf{Version: uint64(i), Label: label})
	}
	return l
}

func (l made) head() api.Head { return annals.Over(l) }

// cut is where leaves are cut in two.
func (l made) cut() (first, others made) {
	k := 1
	for 2*k < len(l) {
		k *= 2
	}
	return l[:k], l[k:]
}

// path is that of a leaf.
func (l made) path(i int) []api.Sum {
	if len(l) == 1 {
		return nil
	}
	first, others := l.cut()
	if i < len(first) {
		return append(first.path(i), others.head().Label)
	}
	return append(others.path(i-len(first)), first.head().Label)
}

// steps is the path from the first m leaves to all.
func (l made) steps(m int, whole bool) []api.Sum {
	if m == len(l) {
		if whole {
			return nil
		}
		return []api.Sum{l.head().Label}
	}
	first, others := l.cut()
	if m <= len(first) {
		return append(first.steps(m, whole), others.head().Label)
	}
	return append(others.steps(m-len(first), false), first.head().Label)
}

// sayHead tells of the newest version of made up annals.
func (l made) sayHead(count uint64) []byte {
	last := l[len(l)-1]
	return say(api.Message{Kind: api.SayHead, Version: last.Version, Label: last.Label, Count: count, Head: l.head()})
}

func (l made) sayLeaf() []byte {
	return say(api.Message{Kind: api.SayLeaf, Path: l.path(len(l) - 1)})
}

func (l made) sayExtends(m int) []byte {
	return say(api.Message{Kind: api.SayExtends, Path: l.steps(m, true)})
}

// toLabel brings a pair that trusts nothing to the first AskProof of a version 0 with any label.
func (p *pair) toLabel(label api.Sum, count uint64) made {
	p.t.Helper()
	l := madeOf(label)
	p.start()
	p.goesOn("a head", l.sayHead(count), api.Message{Kind: api.AskLeaf})
	p.goesOn("a leaf", l.sayLeaf(), api.Message{Kind: api.AskProof, Span: all})
	return l
}
