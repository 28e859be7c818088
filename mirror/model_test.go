package mirror_test

import (
	"bytes"
	"fmt"
	"maps"
	"slices"
	"testing"

	"witness/annals"
	"witness/api"
	"witness/codec"
	"witness/mirror"
	"witness/node"
	"witness/vault"
	"witness/verify"
)

// model is a mirror by the chapter's words, whose copy is a map in memory.
type model struct {
	trusted  api.Head
	number   uint64
	done     bool
	question *api.Message // nil: no round is on its way
	news     api.Message
	wanted   []api.Span
	kept     []api.Entry
	copied   map[string]string
	versions uint64 // the number of the copy's newest version
}

func (x *model) start() {
	x.number, x.done = 0, false
	x.wanted, x.kept = []api.Span{all}, nil
	x.ask(api.Message{Kind: api.AskHead})
}

func (x *model) ask(q api.Message) { x.question = &q }

func (x *model) askProof() {
	x.ask(api.Message{Kind: api.AskProof, Version: x.news.Version, Span: x.wanted[0]})
}

func (x *model) fail(e api.Errno) error {
	x.question = nil
	return e
}

// end makes the copy another map.
func (x *model) end(now map[string]string) error {
	keys := map[string]bool{}
	for _, key := range slices.Concat(slices.Collect(maps.Keys(x.copied)), slices.Collect(maps.Keys(now))) {
		old, had := x.copied[key]
		value, has := now[key]
		if old != value || had != has {
			keys[key] = true
		}
	}
	x.versions += uint64((len(keys) + api.MaxBatch - 1) / api.MaxBatch)
	x.copied = now
	x.trusted, x.number, x.done, x.question = x.news.Head, x.news.Version, true, nil
	return nil
}

func rootOf(l []api.Entry) (api.Sum, bool) {
	label, e := node.Root(l)
	return label, e == api.OK
}

func (x *model) hear(b []byte) error {
	if x.question == nil {
		return api.ErrIdle
	}
	right := map[int]int{api.AskHead: api.SayHead, api.AskExtends: api.SayExtends, api.AskLeaf: api.SayLeaf, api.AskDelta: api.SayDelta, api.AskProof: api.SayProof}
	a, e := codec.ReadMessage(b)
	if e != api.OK || a.Kind != right[x.question.Kind] && a.Kind != api.SayNo {
		return x.fail(api.ErrMessage)
	}
	if a.Kind == api.SayNo && x.question.Kind != api.AskDelta && (x.question.Kind != api.AskProof || a.Code != api.ErrProof) {
		return x.fail(api.ErrRefused)
	}
	switch x.question.Kind {
	case api.AskHead:
		return x.hearHead(a)
	case api.AskExtends:
		if annals.Extends(x.trusted, x.news.Head, a.Path) != api.OK {
			return x.fail(api.ErrTrust)
		}
		x.ask(api.Message{Kind: api.AskLeaf, Version: x.news.Version})
		return nil
	case api.AskLeaf:
		return x.hearLeaf(a)
	case api.AskDelta:
		return x.hearDelta(a)
	}
	return x.hearProof(a)
}

func (x *model) hearHead(a api.Message) error {
	if a.Head.Size != a.Version+1 || a.Head.Size < x.trusted.Size {
		return x.fail(api.ErrTrust)
	}
	if a.Head.Size == x.trusted.Size && a.Head.Label != x.trusted.Label {
		return x.fail(api.ErrTrust)
	}
	x.news = a
	if x.trusted.Size != 0 && x.trusted.Size != a.Head.Size {
		x.ask(api.Message{Kind: api.AskExtends, Other: x.trusted.Size})
	} else {
		x.ask(api.Message{Kind: api.AskLeaf, Version: a.Version})
	}
	return nil
}

func (x *model) hearLeaf(a api.Message) error {
	if annals.Included(x.news.Head, x.news.Version, api.Leaf{Version: x.news.Version, Label: x.news.Label}, a.Path) != api.OK {
		return x.fail(api.ErrTrust)
	}
	label, _ := rootOf(listOf(x.copied))
	switch {
	case label == x.news.Label && uint64(len(x.copied)) == x.news.Count:
		return x.end(x.copied)
	case x.trusted.Size != 0 && x.trusted.Size != x.news.Head.Size:
		x.ask(api.Message{Kind: api.AskDelta, Other: x.trusted.Size - 1, Version: x.news.Version})
	default:
		x.askProof()
	}
	return nil
}

func (x *model) hearDelta(a api.Message) error {
	if a.Kind == api.SayDelta {
		now := maps.Clone(x.copied)
		for _, c := range a.Changes {
			delete(now, string(c.Key))
			if c.Has {
				now[string(c.Key)] = string(c.New)
			}
		}
		if label, ok := rootOf(listOf(now)); ok && label == x.news.Label {
			return x.end(now)
		}
	}
	x.askProof()
	return nil
}

func (x *model) hearProof(a api.Message) error {
	if a.Kind == api.SayNo {
		lower, upper, ok := halved(x.wanted[0])
		if !ok {
			return x.fail(api.ErrRefused)
		}
		x.wanted = slices.Concat([]api.Span{lower, upper}, x.wanted[1:])
		x.askProof()
		return nil
	}
	shown, e := verify.Span(x.news.Label, x.wanted[0], a.Body)
	if e != api.OK {
		return x.fail(api.ErrTrust)
	}
	x.kept = append(x.kept, shown.Entries...)
	if x.wanted = x.wanted[1:]; len(x.wanted) > 0 {
		x.askProof()
		return nil
	}
	if label, ok := rootOf(x.kept); !ok || label != x.news.Label {
		return x.fail(api.ErrTrust)
	}
	now := map[string]string{}
	for _, entry := range x.kept {
		now[string(entry.Key)] = string(entry.Value)
	}
	return x.end(now)
}

// halved is 18.6, byte by byte.
func halved(s api.Span) (lower, upper api.Span, ok bool) {
	for k := 1; k <= api.MaxKey; k++ {
		first, some := leastAbove(s.Lo, k)
		last, more := bytes.Repeat([]byte{0xff}, k), true
		if !s.Open {
			last, more = greatestBelow(s.Hi, k)
		}
		if some && more && bytes.Compare(first, last) <= 0 {
			m := between(first, last)
			return api.Span{Lo: s.Lo, Hi: m}, api.Span{Lo: m, Hi: s.Hi, Open: s.Open}, true
		}
	}
	return api.Span{}, api.Span{}, false
}

// leastAbove is the least text of k bytes above a text.
func leastAbove(text []byte, k int) ([]byte, bool) {
	b := make([]byte, k)
	if copy(b, text); len(text) < k {
		return b, true
	}
	for i := k - 1; i >= 0; i-- {
		if b[i]++; b[i] != 0 {
			return b, true
		}
	}
	return nil, false
}

// greatestBelow is the greatest text of k bytes below a text.
func greatestBelow(text []byte, k int) ([]byte, bool) {
	b := make([]byte, k)
	if copy(b, text); len(text) > k {
		return b, true
	}
	for i := k - 1; i >= 0; i-- {
		if b[i]--; b[i] != 0xff {
			return b, true
		}
	}
	return nil, false
}

// between is half of what two texts of one length are together, without remainder.
func between(a, b []byte) []byte {
	sum, carry := make([]int, len(a)+1), 0
	for i := len(a) - 1; i >= 0; i-- {
		n := int(a[i]) + int(b[i]) + carry
		sum[i+1], carry = n%256, n/256
	}
	sum[0] = carry
	half := make([]byte, len(a))
	for i := range a {
		half[i] = byte(sum[i]%2*128 + sum[i+1]/2)
	}
	return half
}

// pair is a mirror over a vault of its own, and a model of it.
type pair struct {
	t *testing.T
	m *mirror.Mirror
	w *vault.Vault
	x *model
}

func newPair(t *testing.T, w *vault.Vault, trusted api.Head) *pair {
	t.Helper()
	p := &pair{t, mirror.New(w, trusted), w, &model{trusted: trusted, copied: mapOf(t, w), versions: newest(t, w).Number}}
	p.alike("ahead of the first round")
	return p
}

func (p *pair) start() {
	p.t.Helper()
	starts(p.t, p.m)
	p.x.start()
	p.alike("behind Start")
}

// hears holds what Hear answers, and all behind it, against the model: whether the round goes on.
func (p *pair) hears(what string, b []byte) bool {
	p.t.Helper()
	got, want := p.m.Hear(b), p.x.hear(b)
	is(p.t, fmt.Sprintf("18.5: %s: Hear of %.60x", what, b), told(got), told(want))
	p.alike(what)
	return p.x.question != nil
}

// asked is the question's bytes, those of the model.
func (p *pair) asked() []byte { return say(*p.x.question) }

// alike holds all that the mirror says of itself, and its copy, against the model.
func (p *pair) alike(what string) {
	p.t.Helper()
	q, ok := p.m.Ask()
	again, _ := p.m.Ask()
	want := []byte{}
	if p.x.question != nil {
		want = p.asked()
	}
	if ok != (p.x.question != nil) || !bytes.Equal(q, want) || !bytes.Equal(again, want) {
		p.t.Fatalf("18.4: %s: Ask = %.200x, %v, and then %.200x; want %.200x", what, q, ok, again, want)
	}
	if n, ok := p.m.Done(); n != p.x.number || ok != p.x.done {
		p.t.Fatalf("18.2: %s: Done = %d, %v; want %d, %v", what, n, ok, p.x.number, p.x.done)
	}
	if h := p.m.Trusted(); h != p.x.trusted {
		p.t.Fatalf("18.2: %s: Trusted = %v, want %v", what, h, p.x.trusted)
	}
	own := newest(p.t, p.w)
	if own.Number != p.x.versions || own.Tree.Label != labelOf(p.t, p.x.copied) || len(p.w.Sessions()) > 0 {
		p.t.Fatalf("18.7: %s: the copy is version %d, with the sessions %v and %d keys; want version %d with %d keys", what, own.Number, p.w.Sessions(), own.Tree.Count, p.x.versions, len(p.x.copied))
	}
}
