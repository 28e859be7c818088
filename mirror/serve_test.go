package mirror_test

import (
	"bytes"
	"errors"
	"fmt"
	"testing"

	"witness/annals"
	"witness/api"
	"witness/catalog"
	"witness/codec"
	"witness/disk"
	"witness/mirror"
	"witness/vault"
	"witness/verify"
)

// serves is what a vault answers to a message, in words; the answer must be one.
func serves(t *testing.T, v *vault.Vault, q []byte) string {
	t.Helper()
	return words(read(t, mirror.Serve(v, q)))
}

func noWords(code api.Errno) string { return words(api.Message{Kind: api.SayNo, Code: code}) }

// TestServeOfNoMessage: the error with which it is not read.
func TestServeOfNoMessage(t *testing.T) {
	v := threeVersions(t)
	for i, row := range []struct {
		b    []byte
		want api.Errno
	}{
		{nil, api.ErrShort}, {[]byte{}, api.ErrShort}, {[]byte{0}, api.ErrKind}, {[]byte{6}, api.ErrKind}, {[]byte{10}, api.ErrKind}, {[]byte{16}, api.ErrKind}, {[]byte{20}, api.ErrKind}, {[]byte{255}, api.ErrKind},
		{[]byte{1, 0}, api.ErrTrail}, {[]byte{3}, api.ErrShort}, {[]byte{3, 0x80, 0}, api.ErrForm}, {[]byte{2, 0, 2}, api.ErrForm},
		{append([]byte{3}, bytes.Repeat([]byte{0xff}, 9)...), api.ErrShort}, {append([]byte{3}, bytes.Repeat([]byte{0xff}, 10)...), api.ErrLong},
		{say(api.Message{Kind: api.AskLeaf, Version: api.MaxNumber + 1}), api.ErrLong},
		{say(api.Message{Kind: api.AskExtends, Other: api.MaxNumber + 2}), api.ErrLong},
		{say(api.Message{Kind: api.AskProof, Span: from(letters("x", api.MaxKey+2))}), api.ErrLong},
		{make([]byte, api.MaxMessage+1), api.ErrLong}, {make([]byte, api.MaxMessage), api.ErrKind},
		{append([]byte{1}, make([]byte, api.MaxMessage)...), api.ErrLong}, {append([]byte{1}, make([]byte, api.MaxMessage-1)...), api.ErrTrail},
	} {
		is(t, fmt.Sprint("18.1: row ", i), serves(t, v, row.b), noWords(row.want))
	}
	r := noise(1)
	for range 3000 {
		b := make([]byte, r.IntN(12))
		for i := range b {
			b[i] = byte(r.IntN(256) >> r.IntN(8))
		}
		got := read(t, mirror.Serve(v, b))
		if _, e := codec.ReadMessage(b); e != api.OK {
			is(t, fmt.Sprintf("18.1: Serve of %x", b), words(got), noWords(e))
		}
	}
}

// said is what a vault must answer to a question, by its own answers.
func said(v *vault.Vault, q api.Message) string {
	a, err := api.Message{Kind: q.Kind + 10}, error(nil)
	switch q.Kind {
	case api.AskHead:
		var l []api.Version
		if l, err = v.Versions(); err == nil {
			last := l[len(l)-1]
			a.Version, a.Label, a.Count = last.Number, last.Tree.Label, last.Tree.Count
			a.Head, err = v.Head()
		}
	case api.AskProof:
		a.Body, err = v.ProveAt(q.Version, q.Span)
	case api.AskLeaf:
		a.Path, err = v.Included(q.Version)
	case api.AskExtends:
		a.Path, err = v.Extends(q.Other)
	case api.AskDelta:
		a.Changes, err = v.Diff(q.Other, q.Version)
	default:
		err = api.ErrMessage
	}
	var e api.Errno
	if errors.As(err, &e) {
		return noWords(e)
	}
	return words(a)
}

// questions are messages of each kind, with numbers that a vault with some versions has and has not.
func questions() []api.Message {
	l := []api.Message{{Kind: api.AskHead}}
	numbers := []uint64{0, 1, 2, 3, 4, 5, 6, 7, 99, api.MaxNumber - 1, api.MaxNumber}
	spans := []api.Span{all, from("b"), span("a", "c"), span("", "\x00"), span("a", "a\x00"), from(letters("\xff", 1025)), span("a", letters("z", 1025)), span("b", "a"), span("b", "b"), span("", ""), from("zz")}
	for _, n := range numbers {
		l = append(l, api.Message{Kind: api.AskLeaf, Version: n}, api.Message{Kind: api.AskExtends, Other: n}, api.Message{Kind: api.AskExtends, Other: n + 1})
		for _, s := range spans {
			l = append(l, api.Message{Kind: api.AskProof, Version: n, Span: s})
		}
		for _, other := range numbers {
			l = append(l, api.Message{Kind: api.AskDelta, Other: other, Version: n})
		}
	}
	for _, x := range []api.Message{
		{Kind: api.SayHead, Version: 2, Count: 2, Head: api.Head{Size: 3}}, {Kind: api.SayProof, Body: []byte{0, 3}}, {Kind: api.SayLeaf, Path: make([]api.Sum, 2)}, {Kind: api.SayExtends},
		{Kind: api.SayDelta, Changes: []api.Change{{Key: []byte("a"), Has: true}}}, {Kind: api.SayNo, Code: 5}, {Kind: api.SayNo},
	} {
		l = append(l, x)
	}
	return l
}

// TestServe: each kind of message, of a vault whose window has dropped versions; nothing of it changes.
func TestServe(t *testing.T) {
	d, v := store(t, 40, 3)
	for i := range 5 {
		commits(t, v, edit(fmt.Sprint(i), "x"), edit("a", fmt.Sprint(i)), gone(fmt.Sprint(i-2)), edit("b", "same"))
	}
	_, err := v.Begin()
	must(t, "16.2: Begin", err)
	has, is0 := whatDiskHas(d), everything(t, v)
	met := map[string]int{}
	for _, q := range questions() {
		want := said(v, q)
		is(t, "18.1: Serve of "+words(q), serves(t, v, say(q)), want)
		met[want[:3]]++
		if want == noWords(api.ErrVersion) || want == noWords(api.ErrMessage) || want == noWords(api.ErrLeaf) || want == noWords(api.ErrBounds) {
			met[want]++
		}
	}
	is(t, "18.1: the disk", whatDiskHas(d), has)
	is(t, "18.1: the vault", everything(t, v), is0)
	for _, k := range []string{"11:", "12:", "13:", "14:", "15:", "19:", noWords(api.ErrVersion), noWords(api.ErrMessage), noWords(api.ErrLeaf), noWords(api.ErrBounds)} {
		if met[k] == 0 {
			t.Errorf("18.1: no answer %s", k)
		}
	}
}

// TestServeByContents: what the answers show, whatever the vault's own calls say.
func TestServeByContents(t *testing.T) {
	v := threeVersions(t)
	maps := []map[string]string{{}, {"a": "1"}, {"a": "1", "b": "2"}}
	var leaves []api.Leaf
	for i, x := range maps {
		leaves = append(leaves, api.Leaf{Version: uint64(i), Label: labelOf(t, x)})
	}
	h := annals.Over(leaves)
	for i, x := range maps {
		n := uint64(i)
		p := read(t, mirror.Serve(v, say(api.Message{Kind: api.AskProof, Version: n, Span: all})))
		shown, e := verify.Span(leaves[i].Label, all, p.Body)
		if p.Kind != api.SayProof || e != api.OK || len(shown.Entries) != len(x) {
			t.Fatalf("18.1: AskProof of %d: %s", n, words(p))
		}
		p = read(t, mirror.Serve(v, say(api.Message{Kind: api.AskLeaf, Version: n})))
		if p.Kind != api.SayLeaf || annals.Included(h, n, leaves[i], p.Path) != api.OK {
			t.Fatalf("18.1: AskLeaf of %d: %s", n, words(p))
		}
		p = read(t, mirror.Serve(v, say(api.Message{Kind: api.AskExtends, Other: n + 1})))
		if p.Kind != api.SayExtends || annals.Extends(annals.Over(leaves[:i+1]), h, p.Path) != api.OK {
			t.Fatalf("18.1: AskExtends of %d: %s", n+1, words(p))
		}
	}
	b := api.Change{Key: []byte("b"), Has: true, New: []byte("2")}
	is(t, "18.1: AskDelta", serves(t, v, say(api.Message{Kind: api.AskDelta, Other: 1, Version: 2})), words(api.Message{Kind: api.SayDelta, Changes: []api.Change{b}}))
	b = api.Change{Key: []byte("b"), Had: true, Old: []byte("2")}
	is(t, "18.1: AskDelta back", serves(t, v, say(api.Message{Kind: api.AskDelta, Other: 2, Version: 1})), words(api.Message{Kind: api.SayDelta, Changes: []api.Change{b}}))
	is(t, "18.1: AskDelta of none", serves(t, v, say(api.Message{Kind: api.AskDelta, Other: 2, Version: 2})), words(api.Message{Kind: api.SayDelta}))
}

// TestServeOfTheDead: a vault that was closed, whose power is gone, that has crashed, that was formatted or was overtaken by another one.
func TestServeOfTheDead(t *testing.T) {
	asked := []api.Message{{Kind: api.AskHead}, {Kind: api.AskProof, Span: all}, {Kind: api.AskProof, Version: 9, Span: span("b", "a")}, {Kind: api.AskLeaf}, {Kind: api.AskLeaf, Version: 77}, {Kind: api.AskExtends, Other: 99}, {Kind: api.AskDelta, Other: 9}}
	ends := endings(t)
	ends["format"] = ending{func(d *disk.Disk, _ *vault.Vault) { vault.Format(d, 16, 3) }, api.ErrDead}
	for name, row := range ends {
		for _, q := range asked {
			d, v := store(t, 40, 3)
			commits(t, v, edit("a", "1"))
			row.how(d, v)
			is(t, fmt.Sprint("18.1: ", name, ": Serve of ", words(q)), serves(t, v, say(q)), noWords(row.want))
			is(t, fmt.Sprint("18.1: ", name, ": Serve again"), serves(t, v, say(q)), noWords(api.ErrDead))
			is(t, fmt.Sprint("18.1: ", name, ": Serve of an answer"), serves(t, v, no(0)), noWords(api.ErrMessage))
			is(t, fmt.Sprint("18.1: ", name, ": Serve of nothing"), serves(t, v, nil), noWords(api.ErrShort))
		}
	}
	for _, q := range asked {
		is(t, "18.1: Serve of no vault", serves(t, nil, say(q)), noWords(api.ErrDead))
	}
}

// TestServeOfDamage: what is spoilt is told.
func TestServeOfDamage(t *testing.T) {
	d, v := store(t, 40, 4)
	commits(t, v, edit("a", "one"), edit("b", "two"))
	commits(t, v, edit("a", "three"))
	whole := d.Copy()
	spoil(t, d, whole, api.KindValue, "two")
	spoil(t, d, whole, api.KindFork, "")
	for _, row := range []struct {
		q    api.Message
		want api.Errno
	}{
		{api.Message{Kind: api.AskProof, Version: 2, Span: all}, api.ErrTree},
		{api.Message{Kind: api.AskDelta, Other: 0, Version: 2}, api.ErrTree},
		{api.Message{Kind: api.AskLeaf, Version: 1}, api.ErrCheck},
		{api.Message{Kind: api.AskExtends, Other: 1}, api.ErrCheck},
	} {
		is(t, "18.1: Serve of "+words(row.q), serves(t, v, say(row.q)), noWords(row.want))
	}
	for _, q := range []api.Message{{Kind: api.AskHead}, {Kind: api.AskLeaf, Version: 2}, {Kind: api.AskProof, Version: 2, Span: span("a", "b")}, {Kind: api.AskDelta, Other: 1, Version: 2}} {
		if x := read(t, mirror.Serve(v, say(q))); x.Kind != q.Kind+10 {
			t.Errorf("18.1: Serve of %s: %s", words(q), words(x))
		}
	}
}

// spoil turns a bit of all blobs of a kind that hold a text, as they lie on a copy of a disk that is whole.
func spoil(t *testing.T, d, whole *disk.Disk, kind byte, hold string) {
	t.Helper()
	c, e := catalog.Open(whole)
	if e != api.OK {
		t.Fatal(e)
	}
	found := 0
	for addr, place := range c.Blobs().Each() {
		if body, e := c.Blobs().Get(kind, addr); e == api.OK && bytes.Contains(body, []byte(hold)) {
			found++
			at := place.At + place.Len - 5
			d.Rot(2+16*place.Seg+at/512, at%512, 4)
		}
	}
	if found == 0 {
		t.Fatalf("no blob of kind %d holds %q", kind, hold)
	}
}

// TestServeOfTooMuch: an answer of just MaxMessage bytes is one; of one byte more it is refused. A proof that is too long is refused too.
func TestServeOfTooMuch(t *testing.T) {
	t.Parallel()
	_, v := wide(t, 30, 4)
	whole := letters("x", api.MaxValue)
	l := many(127, whole)
	delta := func(last int) int {
		changes := []api.Change{{Key: []byte("z"), Has: true, New: make([]byte, last)}}
		for _, e := range l {
			changes = append(changes, api.Change{Key: e.Key, Has: true, New: e.Value})
		}
		return len(say(api.Message{Kind: api.SayDelta, Changes: changes}))
	}
	last := api.MaxMessage - delta(60000) + 60000
	if delta(last) != api.MaxMessage {
		t.Fatalf("%d bytes", delta(last))
	}
	for more := -1; more < 2; more++ {
		commits(t, v, append(l, edit("z", letters("z", last+more)))...)
		n := newest(t, v).Number
		got := mirror.Serve(v, say(api.Message{Kind: api.AskDelta, Other: 0, Version: n}))
		if more < 1 && (len(got) != api.MaxMessage+more || read(t, got).Kind != api.SayDelta) || more == 1 && !bytes.Equal(got, no(api.ErrLong)) {
			t.Errorf("18.1: a delta of %d bytes more than MaxMessage: %.20x, %d bytes", more, got, len(got))
		}
		is(t, "18.1: a proof that is too long", serves(t, v, say(api.Message{Kind: api.AskProof, Version: n, Span: all})), noWords(api.ErrProof))
	}
}
