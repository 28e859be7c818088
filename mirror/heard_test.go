package mirror_test

import (
	"bytes"
	"fmt"
	"slices"
	"testing"

	"witness/annals"
	"witness/api"
	"witness/codec"
	"witness/digest"
	"witness/mirror"
	"witness/node"
)

var askKinds = []int{api.AskHead, api.AskExtends, api.AskLeaf, api.AskDelta, api.AskProof}

// ofEachKind are messages that are read, one of each kind.
func ofEachKind() []api.Message {
	return []api.Message{
		{Kind: api.AskHead}, {Kind: api.AskProof, Version: 4, Span: all}, {Kind: api.AskLeaf, Version: 4}, {Kind: api.AskExtends, Other: 3}, {Kind: api.AskDelta, Other: 2, Version: 4},
		{Kind: api.SayHead, Version: 4, Head: api.Head{Size: 5}}, {Kind: api.SayProof, Body: []byte{0, 3}}, {Kind: api.SayLeaf, Path: make([]api.Sum, 1)}, {Kind: api.SayExtends, Path: make([]api.Sum, 2)},
		{Kind: api.SayDelta},
	}
}

// TestNoAnswer: bytes that are no message, and messages that answer another question, at each question.
func TestNoAnswer(t *testing.T) {
	for _, kind := range askKinds {
		p, v := scene(t, kind)
		honest := mirror.Serve(v, p.asked())
		bad := [][]byte{
			nil, {}, {0}, []byte("x"), honest[:len(honest)-1], append(bytes.Clone(honest), 0), {byte(kind + 10)}, {api.SayNo}, {api.SayNo, 0xe8, 7}, // a Code of 1000
			append([]byte{byte(kind + 10)}, make([]byte, api.MaxMessage)...), bytes.Repeat([]byte{0xff}, 50),
		}
		for _, x := range ofEachKind() {
			if _, e := codec.ReadMessage(say(x)); e != api.OK {
				t.Fatalf("no message: %s", words(x))
			}
			if x.Kind != kind+10 {
				bad = append(bad, say(x))
			}
		}
		for i, b := range bad {
			p, v := scene(t, kind)
			p.lost(fmt.Sprintf("%s: bytes %d", kinds[kind], i), b, api.ErrMessage, v)
		}
	}
}

// TestSayNo: with each Code, at each question.
func TestSayNo(t *testing.T) {
	codes := []api.Errno{api.OK, 1, api.ErrShort, api.ErrLong, api.ErrVersion, api.ErrLabel, api.ErrProof - 1, api.ErrProof + 1, api.ErrMessage, api.ErrTrust, api.ErrRefused, api.ErrIdle, 999}
	for _, kind := range askKinds {
		for _, code := range append(codes, api.ErrProof) {
			p, v := scene(t, kind)
			what := fmt.Sprint(kinds[kind], ": SayNo with ", int(code))
			ask := api.Message{Kind: api.AskProof, Version: 4, Span: all}
			switch {
			case kind == api.AskDelta:
				p.goesOn(what, no(code), ask)
			case kind == api.AskProof && code == api.ErrProof:
				ask.Span = span("", "\x7f")
				p.goesOn(what, no(code), ask)
			default:
				p.lost(what, no(code), api.ErrRefused, v)
				continue
			}
			p.rest(v)
			followed(t, what, p.m, p.w, v)
		}
	}
	for code := range api.Errno(1000) { // all others are refusals, while proofs are asked for
		if code != api.ErrProof && code%7 == 0 {
			p, _ := scene(t, api.AskProof)
			p.lost(fmt.Sprint("SayNo with ", int(code)), no(code), api.ErrRefused, nil)
		}
	}
}

// TestHeads: which heads are gone on with, by what is trusted.
func TestHeads(t *testing.T) {
	const most = api.MaxNumber
	one, two := api.Sum{1}, api.Sum{2}
	extends := func(size uint64) api.Message { return api.Message{Kind: api.AskExtends, Other: size} }
	leaf := func(n uint64) api.Message { return api.Message{Kind: api.AskLeaf, Version: n} }
	none := api.Message{} // ErrTrust
	for i, row := range []struct {
		trusted api.Head
		version uint64
		head    api.Head
		want    api.Message
	}{
		{api.Head{Size: 3, Label: one}, 4, api.Head{Size: 5, Label: two}, extends(3)},
		{api.Head{Size: 3, Label: one}, 4, api.Head{Size: 5, Label: one}, extends(3)},
		{api.Head{Size: 3, Label: one}, 3, api.Head{Size: 4, Label: two}, extends(3)},
		{api.Head{Size: 3, Label: one}, 4, api.Head{Size: 4, Label: two}, none},
		{api.Head{Size: 3, Label: one}, 4, api.Head{Size: 6, Label: two}, none},
		{api.Head{Size: 3, Label: one}, 5, api.Head{Size: 5, Label: two}, none},
		{api.Head{Size: 3, Label: one}, 3, api.Head{Size: 5, Label: two}, none},
		{api.Head{Size: 3, Label: one}, 0, api.Head{Size: 5, Label: two}, none},
		{api.Head{Size: 3, Label: one}, 2, api.Head{Size: 3, Label: one}, leaf(2)},
		{api.Head{Size: 3, Label: one}, 2, api.Head{Size: 3, Label: two}, none},
		{api.Head{Size: 3, Label: one}, 3, api.Head{Size: 3, Label: one}, none},
		{api.Head{Size: 3, Label: one}, 1, api.Head{Size: 3, Label: one}, none},
		{api.Head{Size: 3, Label: one}, 1, api.Head{Size: 2, Label: one}, none},
		{api.Head{Size: 3, Label: one}, 0, api.Head{Size: 1, Label: one}, none},
		{api.Head{Size: 3, Label: one}, 0, api.Head{}, none},
		{api.Head{Size: 3, Label: one}, most, api.Head{Size: most + 1, Label: two}, extends(3)},
		{api.Head{Size: 3, Label: one}, most, api.Head{Size: most, Label: two}, none},
		{api.Head{Size: 3, Label: one}, most, api.Head{Size: 0, Label: two}, none},
		{api.Head{Size: 3, Label: one}, most - 1, api.Head{Size: most, Label: two}, extends(3)},
		{api.Head{Size: 3, Label: one}, most - 1, api.Head{Size: most + 1, Label: two}, none},
		{api.Head{}, 0, api.Head{Size: 1, Label: two}, leaf(0)},
		{api.Head{}, 4, api.Head{Size: 5, Label: two}, leaf(4)},
		{api.Head{}, 0, api.Head{}, none},
		{api.Head{}, 1, api.Head{Size: 1}, none},
		{api.Head{}, most, api.Head{Size: most + 1}, leaf(most)},
		{api.Head{Label: two}, 4, api.Head{Size: 5, Label: one}, leaf(4)}, // nothing is trusted, whatever the label is
		{api.Head{Label: two}, 0, api.Head{Label: two}, none},
		{api.Head{Size: 1, Label: one}, 0, api.Head{Size: 1, Label: one}, leaf(0)},
		{api.Head{Size: 1, Label: one}, 0, api.Head{Size: 1, Label: two}, none},
		{api.Head{Size: 1, Label: one}, 1, api.Head{Size: 2, Label: two}, extends(1)},
		{api.Head{Size: 1, Label: one}, 0, api.Head{Size: 0, Label: one}, none},
		{api.Head{Size: most, Label: one}, most, api.Head{Size: most + 1, Label: two}, extends(most)},
		{api.Head{Size: most + 1, Label: one}, most, api.Head{Size: most + 1, Label: one}, leaf(most)},
		{api.Head{Size: most + 1, Label: one}, most, api.Head{Size: most + 1, Label: two}, none},
		{api.Head{Size: most + 1, Label: one}, most - 1, api.Head{Size: most, Label: one}, none},
		{api.Head{Size: most + 2, Label: one}, most, api.Head{Size: most + 1, Label: one}, none}, // no annals are so great
		{api.Head{Size: 1 << 63, Label: one}, most, api.Head{Size: most + 1, Label: one}, none},
		{api.Head{Size: 1<<64 - 1, Label: one}, 0, api.Head{Size: 1, Label: one}, none},
		{api.Head{Size: 1<<64 - 1, Label: one}, most, api.Head{Size: most + 1, Label: one}, none},
	} {
		p := newPair(t, some(t, 3), row.trusted)
		p.start()
		what := fmt.Sprint("row ", i)
		b := say(api.Message{Kind: api.SayHead, Version: row.version, Head: row.head, Count: 77})
		if row.want.Kind == 0 {
			p.lost(what, b, api.ErrTrust, nil)
		} else {
			p.goesOn(what, b, row.want)
		}
	}
}

// otherPaths are paths that are not the right one.
func otherPaths(right []api.Sum) [][]api.Sum {
	l := [][]api.Sum{append(slices.Clone(right), api.Sum{}), append([]api.Sum{{}}, right...), make([]api.Sum, len(right)), make([]api.Sum, 128)}
	if len(right) > 0 {
		l = append(l, nil, right[1:], right[:len(right)-1])
	}
	for i := range right {
		x := slices.Clone(right)
		x[i][31] ^= 1
		l = append(l, x)
	}
	if x := slices.Clone(right); len(x) > 1 {
		slices.Reverse(x)
		l = append(l, x)
	}
	return l
}

// TestPaths: a path that does not show what it is to show: that one head extends the other; that the leaf stands in the annals.
func TestPaths(t *testing.T) {
	for _, kind := range []int{api.AskExtends, api.AskLeaf} {
		p, v := scene(t, kind)
		right := read(t, mirror.Serve(v, p.asked())).Path
		for i, path := range otherPaths(right) {
			p, v := scene(t, kind)
			p.lost(fmt.Sprintf("%s: path %d", kinds[kind], i), say(api.Message{Kind: kind + 10, Path: path}), api.ErrTrust, v)
		}
		next := api.Message{Kind: api.AskLeaf, Version: 4}
		if kind == api.AskLeaf {
			next = api.Message{Kind: api.AskDelta, Other: 2, Version: 4}
		}
		p.goesOn("the right path", say(api.Message{Kind: kind + 10, Path: right}), next)
	}
}

// TestOtherNews: heads, labels and counts that are told, and are not those of the annals.
func TestOtherNews(t *testing.T) {
	p, v := scene(t, api.AskHead)
	honest := read(t, mirror.Serve(v, p.asked()))
	x := honest
	x.Head.Label[0] ^= 1
	p.goesOn("another head", say(x), api.Message{Kind: api.AskExtends, Other: 3})
	p.lost("a path to another head", mirror.Serve(v, p.asked()), api.ErrTrust, v)

	p, v = scene(t, api.AskHead)
	x = honest
	x.Label = labelOf(t, map[string]string{"a": "1"})
	p.goesOn("another label", say(x), api.Message{Kind: api.AskExtends, Other: 3})
	p.until(v, api.AskLeaf)
	p.lost("a path to another leaf", mirror.Serve(v, p.asked()), api.ErrTrust, v)

	for _, count := range []uint64{0, honest.Count - 1, honest.Count + 1, api.MaxNumber} { // which is not looked at where the map has to be made
		p, v = scene(t, api.AskHead)
		x = honest
		x.Count = count
		p.goesOn("another count", say(x), api.Message{Kind: api.AskExtends, Other: 3})
		p.rest(v)
		followed(t, "another count", p.m, p.w, v)
	}

	for _, trusted := range []api.Head{{Size: 3, Label: api.Sum{3}}, {Size: 5, Label: api.Sum{3}}, {Size: 1, Label: api.Sum{3}}, {Size: 6}} { // heads of other annals
		p := newPair(t, some(t, 3), trusted)
		p.start()
		for p.hears("trusted heads of others", mirror.Serve(v, p.asked())) {
		}
		if p.x.done || p.m.Trusted() != trusted {
			t.Errorf("18.5: a head of Size %d that is no head of these annals is followed", trusted.Size)
		}
	}
}

// TestHasAlready: a copy that has the new map, by what is trusted: with the Count that was told the round ends, with another one it goes on, and nothing is committed either way.
func TestHasAlready(t *testing.T) {
	v := some(t, 9)
	commits(t, v, edit("a", "1"))
	old := headOf(t, v)
	commits(t, v, edit("a", "2"))
	commits(t, v, gone("none"))
	now := headOf(t, v)
	for _, row := range []struct {
		trusted api.Head
		more    int // what is asked, where another Count was told
	}{{api.Head{}, api.AskProof}, {api.Head{Label: api.Sum{7}}, api.AskProof}, {old, api.AskDelta}, {now, api.AskProof}} {
		for _, count := range []uint64{1, 0, 2, api.MaxNumber} {
			d, w := store(t, 40, 9)
			commits(t, w, edit("a", "2"))
			p := newPair(t, w, row.trusted)
			has := whatDiskHas(d)
			p.start()
			x := read(t, mirror.Serve(v, p.asked()))
			x.Count = count
			p.hears("a head", say(x))
			p.until(v, api.AskLeaf)
			b := mirror.Serve(v, p.asked())
			if count == 1 {
				p.endsWell("the copy has it already", b, 3, now)
			} else {
				p.hears("another count", b)
				if kind := question(t, p.m).Kind; kind != row.more {
					t.Fatalf("18.5: behind another count %s is asked", kinds[kind])
				}
				p.rest(v)
			}
			followed(t, "has already", p.m, w, v)
			is(t, "18.7, 18.10: the disk", whatDiskHas(d), has)
		}
	}
}

// TestHasAlreadyByDelta: where another Count was told, a delta of nothing leads to the new map too; a refusal does not.
func TestHasAlreadyByDelta(t *testing.T) {
	for _, refused := range []bool{false, true} {
		p, v := scene(t, api.AskHead)
		commits(t, p.w, gone("a"), edit("b", ""), edit("d", "4"), edit("e", "5"))
		p.x.copied, p.x.versions = mapOf(t, p.w), 2
		x := read(t, mirror.Serve(v, p.asked()))
		x.Count++
		p.hears("a head", say(x))
		p.until(v, api.AskDelta)
		if refused {
			p.goesOn("a refusal", no(0), api.Message{Kind: api.AskProof, Version: 4, Span: all})
			p.rest(v)
		} else {
			p.endsWell("a delta of nothing", say(api.Message{Kind: api.SayDelta}), 4, headOf(t, v))
		}
		followed(t, "has already", p.m, p.w, v)
		if n := newest(t, p.w).Number; n != 2 {
			t.Errorf("18.7: the copy is version %d", n)
		}
	}
}

func put(key, value string) api.Change {
	return api.Change{Key: []byte(key), Has: true, New: []byte(value)}
}

func drop(key string) api.Change { return api.Change{Key: []byte(key), Had: true} }

// TestDeltas: changes that lead to the new map are taken, whatever they say beside it; others are not.
func TestDeltas(t *testing.T) {
	// the copy: none at the empty key, a = 1, b = 2, c = 3; the new map: none at the empty key, b empty, c = 3, d = 4, e = 5
	right := []api.Change{drop("a"), put("b", ""), put("d", "4"), put("e", "5")}
	backwards := slices.Clone(right)
	slices.Reverse(backwards)
	anything := []api.Change{
		{Key: []byte("a"), Had: true, Old: []byte("never")}, {Key: []byte("b"), Had: true, Old: []byte("was"), Has: true}, {Key: []byte("d"), Had: true, Has: true, New: []byte("4")},
		{Key: []byte("e"), Had: true, Old: []byte("5"), Has: true, New: []byte("5")},
	}
	with := func(more ...api.Change) []api.Change { return append(slices.Clone(right), more...) }
	for i, row := range []struct {
		changes []api.Change
		taken   bool
	}{
		{right, true}, {backwards, true}, {anything, true},
		{with(put("c", "3")), true}, {with(drop("nothing")), true}, {with(drop("a")), true}, {with(put("a", "7"), drop("a")), true}, {with(drop("e"), put("e", "6"), put("e", "5")), true},
		{append([]api.Change{put("", "other"), put("z", "z")}, with(drop("z"), put("", "none"))...), true},
		{with(drop("e"), put("e", "5"), drop("d"), put("d", "4")), true},
		{nil, false}, {right[1:], false}, {right[:3], false}, {with(put("f", "6")), false}, {with(drop("c")), false}, {with(put("e", "6")), false}, {with(drop("e")), false},
		{with(put("a", "1")), false}, {with(put("b", "2")), false}, {with(drop("b")), false}, {with(drop("")), false}, {with(put("", "")), false}, {with(put("\x00", "")), false},
		{append([]api.Change{put("a", "1"), put("e", "6")}, right...), true}, {append(slices.Clone(backwards), put("a", "")), false},
		{with(put(letters("k", api.MaxKey), "v")), false}, {with(put("c", letters("v", api.MaxValue))), false},
		{with(put(letters("k", api.MaxKey), letters("v", api.MaxValue)), drop(letters("k", api.MaxKey))), true},
	} {
		p, v := scene(t, api.AskDelta)
		b, what := say(api.Message{Kind: api.SayDelta, Changes: row.changes}), fmt.Sprint("delta ", i)
		if row.taken {
			p.endsWell(what, b, 4, headOf(t, v))
			if n := newest(t, p.w).Number; n != 2 {
				t.Fatalf("18.7: %s: the copy is version %d", what, n)
			}
		} else {
			p.goesOn(what, b, api.Message{Kind: api.AskProof, Version: 4, Span: all})
			p.rest(v)
		}
		followed(t, what, p.m, p.w, v)
	}
	for i, c := range []api.Change{
		put(letters("k", api.MaxKey+1), ""), put("c", letters("v", api.MaxValue+1)), {Key: []byte("c"), Had: true, Old: make([]byte, api.MaxValue+1), Has: true, New: []byte("3")}, {Key: []byte("z")},
	} { // which are no messages
		p, v := scene(t, api.AskDelta)
		p.lost(fmt.Sprint("changes that are none, ", i), say(api.Message{Kind: api.SayDelta, Changes: with(c)}), api.ErrMessage, v)
	}
}

// TestProofs: that of another span, of another version, of another map; one that is spoilt in any byte.
func TestProofs(t *testing.T) {
	p, v := scene(t, api.AskProof)
	proof := func(version uint64, s api.Span) []byte {
		return mirror.Serve(v, say(api.Message{Kind: api.AskProof, Version: version, Span: s}))
	}
	for i, b := range [][]byte{
		proof(3, all), proof(2, all), proof(0, all), proof(4, from("a")), proof(4, from("\x00")), proof(4, span("", "e")), say(api.Message{Kind: api.SayProof}), say(api.Message{Kind: api.SayProof, Body: make([]byte, api.MaxProof)}),
		say(api.Message{Kind: api.SayProof, Body: []byte{0, 3}}),
	} {
		p, v := scene(t, api.AskProof)
		p.lost(fmt.Sprint("proof ", i), b, api.ErrTrust, v)
	}
	right := proof(4, all)
	for i := range right {
		b := bytes.Clone(right)
		b[i] ^= byte(1 + i%255)
		p, _ := scene(t, api.AskProof)
		if p.hears(fmt.Sprint("a proof that is spoilt at ", i), b) || p.x.done {
			t.Fatalf("18.8: a proof that is spoilt at %d is taken", i)
		}
	}
	p.endsWell("the right proof", right, 4, headOf(t, v))
	followed(t, "the right proof", p.m, p.w, v)

	p, v = scene(t, api.AskProof) // in pieces: the right one of each, and the other piece's
	p.goesOn("too long", no(api.ErrProof), api.Message{Kind: api.AskProof, Version: 4, Span: span("", "\x7f")})
	p.goesOn("too long again", no(api.ErrProof), api.Message{Kind: api.AskProof, Version: 4, Span: span("", "\x3f")})
	p.goesOn("the first piece", proof(4, span("", "\x3f")), api.Message{Kind: api.AskProof, Version: 4, Span: span("\x3f", "\x7f")})
	p.goesOn("too long", no(api.ErrProof), api.Message{Kind: api.AskProof, Version: 4, Span: span("\x3f", "\x5f")})
	p.goesOn("the second piece", proof(4, span("\x3f", "\x5f")), api.Message{Kind: api.AskProof, Version: 4, Span: span("\x5f", "\x7f")})
	p.goesOn("the third piece", proof(4, span("\x5f", "\x7f")), api.Message{Kind: api.AskProof, Version: 4, Span: from("\x7f")})
	p.endsWell("the last piece", proof(4, from("\x7f")), 4, headOf(t, v))
	followed(t, "in pieces", p.m, p.w, v)

	for _, s := range []api.Span{from("\x00"), from("\x7f"), span("", "\x3f"), span("\x00", "\x7f"), span("\x3f", "\x7f")} {
		p, v = scene(t, api.AskProof)
		p.hears("too long", no(api.ErrProof))
		p.lost("another piece's proof", proof(4, s), api.ErrTrust, v)
	}
	p, v = scene(t, api.AskProof)
	p.hears("too long", no(api.ErrProof))
	p.hears("the first piece", proof(4, span("", "\x7f")))
	p.lost("the first piece's proof again", proof(4, span("", "\x7f")), api.ErrTrust, v)
	p, v = scene(t, api.AskProof)
	p.hears("too long", no(api.ErrProof))
	p.hears("the first piece", proof(4, span("", "\x7f")))
	p.lost("a refusal", no(api.ErrVersion), api.ErrRefused, v)
}

// noMap is a label that is no map's, and its proofs: a = 1 alone hangs there, and there are said to be more keys.
func noMap(count uint64) (label api.Sum, proof func(s api.Span) []byte) {
	a := api.Tower{Key: []byte("a"), Value: api.Addr{Sum: digest.Of([]byte{api.KindValue, '1'})}}
	kid := api.Kid{Level: node.Height(a.Key) - 1, Key: a.Key, Count: 1, Label: node.Own(a)}
	head := api.Tower{Head: true, Kids: []api.Kid{kid}}
	label = digest.Of(node.RootText(count, node.Label(head)))
	op := api.Op{Level: kid.Level, Key: kid.Key, Count: kid.Count}
	return label, func(s api.Span) []byte {
		var ops []api.Op
		switch {
		case !s.Open && bytes.Compare(s.Hi, a.Key) <= 0:
			op.Kind, op.Sum = api.OpStay, kid.Label
			ops = []api.Op{op, {Kind: api.OpHead}}
		case bytes.Compare(a.Key, s.Lo) <= 0:
			op.Kind, op.Sum = api.OpRight, node.Own(head)
			end := api.Op{Kind: api.OpOut, Sum: a.Value.Sum}
			if bytes.Equal(a.Key, s.Lo) {
				end = api.Op{Kind: api.OpIn, Value: []byte("1")}
			}
			ops = []api.Op{op, end}
		default:
			op.Kind, op.Sum = api.OpBoth, api.Sum{}
			ops = []api.Op{op, {Kind: api.OpHead}, {Kind: api.OpIn, Value: []byte("1")}}
		}
		return say(api.Message{Kind: api.SayProof, Body: codec.Proof(api.Proof{Count: count, Ops: ops})})
	}
}

// TestLabelOfNoMap: proofs that are all taken, of a label whose entries together have another one.
func TestLabelOfNoMap(t *testing.T) {
	for _, count := range []uint64{1, 2, 7, api.MaxNumber} {
		label, proof := noMap(count)
		for pieces := range 4 {
			p := newPair(t, some(t, 3), api.Head{})
			l := p.toLabel(label, count)
			for range pieces {
				p.hears("too long", no(api.ErrProof))
			}
			for range pieces {
				p.hears("a piece", proof(p.x.question.Span))
			}
			last := proof(p.x.question.Span)
			if count == 1 {
				p.endsWell("a map's label", last, 0, l.head())
			} else {
				p.lost("a label of no map", last, api.ErrTrust, nil)
			}
		}
	}
	label, proof := noMap(2) // behind a delta, too: the copy was followed, and now the annals have no map's label
	p := newPair(t, some(t, 3), api.Head{})
	first := madeOf(labelOf(t, map[string]string{}))
	p.start()
	p.hears("a head", first.sayHead(0))
	p.endsWell("the empty map", first.sayLeaf(), 0, first.head())
	l := madeOf(first[0].Label, label)
	p.start()
	p.hears("a head", l.sayHead(1))
	p.hears("a path", l.sayExtends(1))
	p.goesOn("a leaf", l.sayLeaf(), api.Message{Kind: api.AskDelta, Other: 0, Version: 1})
	p.goesOn("a delta", say(api.Message{Kind: api.SayDelta, Changes: []api.Change{put("a", "1")}}), api.Message{Kind: api.AskProof, Version: 1, Span: all})
	p.lost("a label of no map", proof(all), api.ErrTrust, nil)
}

// TestGreatestNumbers: annals of as many leaves as there can be.
func TestGreatestNumbers(t *testing.T) {
	const last = api.MaxNumber
	map1 := map[string]string{"a": "1"}
	leaf := api.Leaf{Version: last, Label: labelOf(t, map1)}
	first := api.Sum{7} // the label over all leaves but the last
	end := digest.Of(annals.LeafText(leaf))
	h := api.Head{Size: last + 1, Label: digest.Of(annals.ForkText(first, end))}
	head := say(api.Message{Kind: api.SayHead, Version: last, Label: leaf.Label, Count: 1, Head: h})
	path := say(api.Message{Kind: api.SayLeaf, Path: []api.Sum{first}})
	askLeaf, askProof := api.Message{Kind: api.AskLeaf, Version: last}, api.Message{Kind: api.AskProof, Version: last, Span: all}

	p := newPair(t, some(t, 3), api.Head{Size: last, Label: first})
	p.start()
	p.goesOn("a head", head, api.Message{Kind: api.AskExtends, Other: last})
	p.goesOn("a path", say(api.Message{Kind: api.SayExtends, Path: []api.Sum{end}}), askLeaf)
	p.goesOn("a leaf", path, api.Message{Kind: api.AskDelta, Other: last - 1, Version: last})
	p.endsWell("a delta", say(api.Message{Kind: api.SayDelta, Changes: []api.Change{put("a", "1")}}), last, h)

	_, proof := noMap(1)
	for _, trusted := range []api.Head{{}, h} {
		p = newPair(t, some(t, 3), trusted)
		p.start()
		p.goesOn("a head", head, askLeaf)
		p.goesOn("a leaf", path, askProof)
		p.endsWell("a proof", proof(all), last, h)
		p.start()
		p.goesOn("a head", head, askLeaf)
		p.endsWell("a leaf", path, last, h)
	}
	p.start()
	p.lost("a head that is less", say(api.Message{Kind: api.SayHead, Version: last - 1, Head: api.Head{Size: last, Label: first}}), api.ErrTrust, nil)
}
