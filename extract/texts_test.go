package extract_test

import (
	"fmt"
	"runtime"
	"slices"
	"strings"
	"testing"

	"witness/api"
	"witness/codec"
	"witness/extract"
)

// TestTextsOfProofs: of maps of all shapes, and of all sorts of spans.
func TestTextsOfProofs(t *testing.T) {
	n := &noise{x: 10}
	met := map[int]int{}
	for what, m := range kindsOfMaps(n) {
		p := planOf(m)
		for _, in := range append(some(n, spansOf(bounds(m)), 40), all, only(n.key())) {
			w := p.walk(in)
			for _, op := range w.ops {
				met[op.Kind]++
			}
			tells(t, what, in, w.proof(), w.texts)
			if sumOf(w.texts[0]) != p.tree.Label {
				t.Fatalf("the walk of %s has another root's text", toldSpan(in))
			}
			if e := holds(t, what, in, w.proof()); e != api.OK {
				t.Errorf("12.1: %s: the model refuses an honest proof of %s: %d", what, toldSpan(in), e)
			}
		}
		if t.Failed() {
			t.FailNow()
		}
	}
	for kind := api.OpIn; kind < api.NumOps; kind++ {
		if met[kind] == 0 {
			t.Errorf("no op of the kind %d was met", kind)
		}
	}
}

// TestUnfitSpansFirst: they are told ahead of all that is wrong with a proof.
func TestUnfitSpansFirst(t *testing.T) {
	long, tooLong := strings.Repeat("k", 1025), strings.Repeat("k", 1026)
	head := api.Op{Kind: api.OpHead}
	proofs := []struct {
		p    api.Proof
		want api.Errno
	}{
		{proofOf(0, head), api.OK}, {proofOf(0), api.ErrEnds}, {proofOf(0, head, head), api.ErrEnds}, {proofOf(0, api.Op{Kind: 7}), api.ErrKind}, {proofOf(0, api.Op{Kind: api.OpIn}), api.ErrOp},
		{proofOf(1<<62+1, head), api.ErrLong}, {proofOf(0, api.Op{Kind: api.OpIn, Value: make([]byte, api.MaxProof)}), api.ErrLong},
	}
	for _, c := range []struct {
		s    api.Span
		want api.Errno
	}{
		{from(""), api.OK}, {from(long), api.OK}, {span("", "\x00"), api.OK}, {span("a", long), api.OK}, {span(long[:1024], long), api.OK}, {span("\x7f", "\x80"), api.OK},
		{api.Span{Hi: []byte(tooLong), Open: true}, api.OK}, {api.Span{Lo: []byte("b"), Hi: []byte("a"), Open: true}, api.OK},
		{api.Span{}, api.ErrBounds}, {span("a", "a"), api.ErrBounds}, {span("b", "a"), api.ErrBounds}, {span("ab", "a"), api.ErrBounds}, {span("\x80", "\x7f"), api.ErrBounds}, {span(long, long), api.ErrBounds}, {span("x", ""), api.ErrBounds},
		{from(tooLong), api.ErrLimit}, {span(tooLong, "z"), api.ErrLimit}, {span("a", tooLong), api.ErrLimit}, {span(tooLong, "a"), api.ErrLimit}, {span("z", tooLong), api.ErrLimit}, {span(tooLong, tooLong), api.ErrLimit},
	} {
		for _, row := range proofs {
			want := row.want
			if c.want != api.OK {
				want = c.want
			}
			if e := holds(t, "a span at its edges", c.s, row.p); e != want {
				t.Errorf("the model says %d of %s, want %d", e, toldSpan(c.s), want)
			}
		}
	}
}

// TestWhatIsNotRead: the error of the written form, ahead of what is wrong with the ops in front.
func TestWhatIsNotRead(t *testing.T) {
	p := planOf(garden())
	tooLong := make([]byte, api.MaxKey+1)
	for _, in := range []api.Span{all, span("3", "8"), only("3"), from("zz")} {
		whole := p.proof(in).Ops
		for _, ops := range [][]api.Op{nil, {{Kind: api.OpHead}}, {{Kind: api.OpIn}}, whole} {
			for i, c := range []struct {
				op   api.Op
				want api.Errno
			}{
				{api.Op{}, api.ErrKind}, {api.Op{Kind: 7}, api.ErrKind}, {api.Op{Kind: 9}, api.ErrKind}, {api.Op{Kind: 255}, api.ErrKind}, {api.Op{Kind: -1}, api.ErrKind}, {api.Op{Kind: 256}, api.ErrKind},
				{api.Op{Kind: api.OpIn, Value: make([]byte, api.MaxValue+1)}, api.ErrLong}, {api.Op{Kind: api.OpBoth, Key: tooLong}, api.ErrLong}, {api.Op{Kind: api.OpStay, Key: tooLong}, api.ErrLong},
				{api.Op{Kind: api.OpBoth, Level: 24}, api.ErrLong}, {api.Op{Kind: api.OpRight, Level: 24}, api.ErrLong}, {api.Op{Kind: api.OpStay, Level: -1}, api.ErrLong},
				{api.Op{Kind: api.OpBoth, Count: 1<<62 + 1}, api.ErrLong}, {api.Op{Kind: api.OpStay, Count: 1<<64 - 1}, api.ErrLong}, {api.Op{Kind: api.OpRight, Count: 1 << 63}, api.ErrLong},
				{api.Op{Kind: 256 + api.OpIn}, api.ErrShort}, {api.Op{Kind: 256 + api.OpOut}, api.ErrShort}, {api.Op{Kind: 256 + api.OpBoth}, api.ErrShort},
			} {
				proof := proofOf(26, append(slices.Clip(ops), c.op)...)
				if e := holds(t, fmt.Sprint("what is not read, row ", i), in, proof); e != c.want {
					t.Errorf("the model says %d of row %d, want %d", e, i, c.want)
				}
			}
		}
		for _, count := range []uint64{1<<62 + 1, 1 << 63, 1<<64 - 1} {
			untold(t, "a count that is too great", in, proofOf(count, whole...), api.ErrLong)
			untold(t, "a count that is too great, and a kind that is none", in, proofOf(count, api.Op{Kind: 9}), api.ErrLong)
		}
		if e := holds(t, "the greatest count", in, proofOf(1<<62, whole...)); e != api.OK {
			t.Errorf("12.1: the greatest count: %d", e)
		}
	}
}

// TestWhatIsReadAsAnother: the texts are those of what is read.
func TestWhatIsReadAsAnother(t *testing.T) {
	p := planOf(three())
	for _, in := range []api.Span{all, span("b", "c"), only("aa"), from("x"), span("", "a")} {
		w := p.walk(in)
		for what, change := range map[string]func(o *api.Op){
			"fields that are not used": func(o *api.Op) {
				switch o.Kind {
				case api.OpIn, api.OpHead, api.OpOut:
					o.Level, o.Key, o.Count = 99, []byte("key"), 1<<64-1
				default:
					o.Value = []byte("value")
				}
				switch o.Kind {
				case api.OpIn, api.OpHead, api.OpBoth:
					o.Sum = api.Sum{1, 2, 3}
				default:
					o.Value = make([]byte, api.MaxValue+1)
				}
			},
			"levels above a byte": func(o *api.Op) { o.Level += 256 * (1 + len(o.Key)) },
			"levels below 0":      func(o *api.Op) { o.Level -= 1 << 40 },
		} {
			ops := slices.Clone(w.ops)
			for i := range ops {
				change(&ops[i])
			}
			tells(t, what, in, proofOf(3, ops...), w.texts)
			holds(t, what, in, proofOf(3, ops...))
		}
		var kinds []api.Op // one for each byte, none of which is a kind
		for _, b := range proofBytes(w.proof())[1:] {
			kinds = append(kinds, api.Op{Kind: 256 + int(b), Value: []byte("value")})
		}
		tells(t, "bytes that come as kinds", in, proofOf(3, kinds...), w.texts)
		holds(t, "bytes that come as kinds", in, proofOf(3, kinds...))
	}
	tells(t, "a kind above a byte", all, proofOf(0, api.Op{Kind: 256 + api.OpHead}), planOf(nil).walk(all).texts)
	tells(t, "a kind below 0", all, proofOf(0, api.Op{Kind: api.OpHead - 512}), planOf(nil).walk(all).texts)
}

// TestProofsAtTheirBound: of one of MaxProof bytes there are texts, of one more there are none.
func TestProofsAtTheirBound(t *testing.T) {
	m := map[string]string{}
	for i := range 63 {
		m[fmt.Sprintf("k%02d", i)] = strings.Repeat("v", api.MaxValue)
	}
	m["last"] = strings.Repeat("v", 16384)
	p := planOf(m).proof(all)
	at := len(p.Ops) - 1
	for string(p.Ops[at].Value) != m["last"] {
		at--
	}
	room := api.MaxProof - len(proofBytes(p)) + 16384
	for more := -1; more < 2; more++ {
		p.Ops[at].Value = []byte(strings.Repeat("w", room+more))
		if got := len(proofBytes(p)); got != api.MaxProof+more {
			t.Fatalf("the proof has %d bytes", got)
		}
		if more < 1 {
			texts, e := rightly(all, proofBytes(p))
			answers(t, "the model of a proof at its bound", e, api.OK)
			tells(t, "a proof at its bound", all, p, texts)
			continue
		}
		untold(t, "a long proof", all, p, api.ErrLong)
		untold(t, "a long proof, of another span", from("zz"), p, api.ErrLong)
		untold(t, "a long proof, and a kind that is none in front", all, proofOf(1, append([]api.Op{{Kind: 9}}, p.Ops...)...), api.ErrLong)
		untold(t, "a long proof of a span that is not fit", span("b", "b"), p, api.ErrBounds)
	}
}

// TestLongProofsOfFewBytes: ops that share one value may have more bytes than there is memory.
func TestLongProofsOfFewBytes(t *testing.T) {
	value := make([]byte, api.MaxValue)
	for _, op := range []api.Op{{Kind: api.OpIn, Value: value}, {Kind: api.OpBoth, Key: value}, {Kind: api.OpStay, Key: value}, {Kind: api.OpRight, Key: value}} {
		p := proofOf(1, slices.Repeat([]api.Op{op}, 1<<17)...)
		var before, behind runtime.MemStats
		runtime.ReadMemStats(&before)
		untold(t, "ops that share one text", all, p, api.ErrLong)
		runtime.ReadMemStats(&behind)
		if n := behind.TotalAlloc - before.TotalAlloc; n > 16*api.MaxProof {
			t.Errorf("0.1: Texts of ops of the kind %d that share one text took %d bytes", op.Kind, n)
		}
	}
	// Of one that is not too long all ops are looked at, whatever stands in fields that are not used.
	ops := slices.Repeat([]api.Op{{Kind: api.OpHead, Key: value, Value: value}, {Kind: 9, Key: value, Value: value}}, 100)
	untold(t, "a kind that is none, far behind", all, proofOf(0, ops...), api.ErrKind)
	untold(t, "ops that are left", all, proofOf(0, slices.Repeat(ops[:1], 200)...), api.ErrEnds)
	for _, in := range []api.Span{all, span("b", "c"), from("x"), span("", "a")} {
		w := planOf(three()).walk(in)
		for i := range w.ops {
			p := proofOf(3, slices.Clone(w.ops)...)
			if o := &p.Ops[i]; o.Kind == api.OpIn || o.Kind == api.OpOut || o.Kind == api.OpHead {
				o.Key = make([]byte, 1<<23)
			}
			if o := &p.Ops[i]; o.Kind != api.OpIn {
				o.Value = make([]byte, 1<<23)
			}
			tells(t, "a long text in a field that is not used", in, p, w.texts)
		}
	}
}

// kid is an op that tells of a key, at the level that belongs to it.
func kid(kind int, key string) api.Op {
	return api.Op{Kind: kind, Level: heightOf(key) - 1, Key: []byte(key), Count: 1}
}

func at(level int, o api.Op) api.Op {
	o.Level = level
	return o
}

var (
	head = api.Op{Kind: api.OpHead}
	in   = api.Op{Kind: api.OpIn}
	out  = api.Op{Kind: api.OpOut}
)

// TestErrorsInTheirOrder: those of verify, but that of the label.
func TestErrorsInTheirOrder(t *testing.T) {
	a, b, c, d := byLevel[0], byLevel[1], byLevel[2], byLevel[3] // of the heights 1 to 4
	stay, right, both := api.OpStay, api.OpRight, api.OpBoth
	for i, row := range []struct {
		s    api.Span
		ops  []api.Op
		want api.Errno
	}{
		// no next op
		{all, nil, api.ErrEnds},
		{all, []api.Op{kid(both, c)}, api.ErrEnds},
		{all, []api.Op{kid(both, c), head}, api.ErrEnds},
		{all, []api.Op{kid(both, c), kid(both, b), head, in}, api.ErrEnds},
		{from("z"), []api.Op{kid(right, c)}, api.ErrEnds},
		{span("", "a"), []api.Op{kid(stay, c)}, api.ErrEnds},
		// ops that are left
		{all, []api.Op{head, head}, api.ErrEnds},
		{all, []api.Op{head, kid(both, a)}, api.ErrEnds},
		{all, []api.Op{kid(both, c), head, in, in}, api.ErrEnds},
		{from("z"), []api.Op{kid(right, c), out, out}, api.ErrEnds},
		{span("", "a"), []api.Op{kid(stay, c), head, at(9, kid(both, a))}, api.ErrEnds},
		// levels, ahead of heights, keys and kinds
		{all, []api.Op{kid(both, c), at(2, kid(stay, c))}, api.ErrLevel},
		{all, []api.Op{kid(both, c), at(23, kid(right, d))}, api.ErrLevel},
		{all, []api.Op{kid(both, b), head, at(2, kid(stay, a))}, api.ErrLevel},
		{from("z"), []api.Op{kid(right, c), at(3, kid(both, d))}, api.ErrLevel},
		// heights, ahead of keys and kinds
		{all, []api.Op{at(23, kid(stay, a))}, api.ErrHeight},
		{all, []api.Op{kid(both, c), at(1, kid(stay, d))}, api.ErrHeight},
		{all, []api.Op{kid(both, b), head, at(1, kid(stay, a))}, api.ErrHeight},
		{from("z"), []api.Op{kid(right, c), at(2, kid(both, d))}, api.ErrHeight},
		// keys, ahead of kinds
		{span("", "z"), []api.Op{kid(both, lowest), kid(stay, c)}, api.ErrKey},
		{all, []api.Op{kid(both, b), head, kid(stay, a)}, api.ErrKey},
		{all, []api.Op{kid(both, b), head, kid(both, b)}, api.ErrKey},
		{from("z"), []api.Op{kid(right, lowest), kid(right, c), kid(right, b)}, api.ErrKey},
		// kinds
		{all, []api.Op{kid(stay, a)}, api.ErrOp},
		{all, []api.Op{kid(right, a)}, api.ErrOp},
		{all, []api.Op{kid(both, "")}, api.ErrOp},
		{all, []api.Op{in}, api.ErrOp},
		{all, []api.Op{out}, api.ErrOp},
		{all, []api.Op{kid(both, c), head, out}, api.ErrOp},
		{from("z"), []api.Op{kid(right, c), in}, api.ErrOp},
		{from(c), []api.Op{kid(right, c), out}, api.ErrOp},
		{span("", c), []api.Op{kid(both, c)}, api.ErrOp},
		{span("", c+"\x00"), []api.Op{kid(stay, c)}, api.ErrOp},
		// of two ops the first one's
		{all, []api.Op{kid(stay, c), at(23, kid(both, d))}, api.ErrOp},
		{all, []api.Op{at(3, kid(both, c)), kid(stay, b)}, api.ErrHeight},
		// the number of keys, behind all ops
		{span("", "a"), []api.Op{kid(stay, c), head}, api.ErrCount},
		{span("", "a"), []api.Op{kid(stay, c), head, head}, api.ErrEnds},
		{span("", "a"), []api.Op{kid(stay, c), in}, api.ErrOp},
		{all, []api.Op{kid(both, c), head, in}, api.ErrCount},
		{span("", "\x00"), []api.Op{kid(right, ""), in}, api.ErrCount},
		{all, []api.Op{head}, api.OK},
		{from("z"), []api.Op{kid(right, c), out}, api.OK},
	} {
		what := fmt.Sprint("row ", i)
		if e := holds(t, what, row.s, proofOf(0, row.ops...)); e != row.want {
			t.Errorf("%s: the model says %d, and the row %d", what, e, row.want)
		}
	}
}

// TestCounts: those of OpStays and the number of OpIns are held against the proof's, as true numbers.
func TestCounts(t *testing.T) {
	const last = uint64(1) << 62
	for kids := range 25 {
		for _, count := range []uint64{0, 1, 1 << 61, last} {
			var ops []api.Op
			for level := kids - 1; level >= 0; level-- {
				o := kid(api.OpStay, byLevel[level])
				o.Count = count
				ops = append(ops, o)
			}
			for _, whole := range []uint64{0, 1, 24, 1 << 61, last} {
				want := api.OK
				if count > 0 && uint64(kids) > whole/count {
					want = api.ErrCount
				}
				if e := holds(t, fmt.Sprintf("%d times %d of %d", kids, count, whole), span("A", "B"), proofOf(whole, append(ops, head)...)); e != want {
					t.Fatalf("the model says %d of %d times %d of %d, want %d", e, kids, count, whole, want)
				}
			}
		}
	}
}

// twisted is a list of ops in which something is changed.
func twisted(n *noise, ops []api.Op) []api.Op {
	ops = slices.Clone(ops)
	i, j := n.below(len(ops)), n.below(len(ops))
	o := &ops[i]
	switch n.below(11) {
	case 0:
		return slices.Delete(ops, i, i+1)
	case 1:
		return slices.Insert(ops, i, ops[j])
	case 2:
		ops[i], ops[j] = ops[j], ops[i]
	case 3:
		o.Kind = n.below(8)
	case 4:
		o.Level = n.below(25)
	case 5:
		o.Count = []uint64{0, o.Count + 1, o.Count - 1, 1 << 62, n.next()}[n.below(5)]
	case 6:
		o.Sum[n.below(32)]++
	case 7:
		o.Value = append(slices.Clone(o.Value), 'x')
	case 8:
		o.Key = ops[j].Key
	case 9:
		o.Key, o.Level = ops[j].Key, ops[j].Level
	default:
		return append(ops[:i:i], ops[j:]...)
	}
	return ops
}

// TestTwistedOps: honest ops with one to three things changed.
func TestTwistedOps(t *testing.T) {
	n := &noise{x: 11}
	met := map[api.Errno]int{}
	for _, m := range someMaps(n) {
		p := planOf(m)
		l := append(spansOf(bounds(m)), all)
		for range 600 {
			in := l[n.below(len(l))]
			ops := p.walk(in).ops
			for range 1 + n.below(3) {
				if len(ops) > 0 {
					ops = twisted(n, ops)
				}
			}
			met[holds(t, "twisted ops", in, proofOf(uint64(len(m)), ops...))]++
		}
		if t.Failed() {
			t.FailNow()
		}
	}
	for _, e := range []api.Errno{api.OK, api.ErrLong, api.ErrKind, api.ErrKey, api.ErrLevel, api.ErrHeight, api.ErrEnds, api.ErrCount, api.ErrOp} {
		if met[e] < 3 {
			t.Errorf("the error %d came %d times", e, met[e])
		}
	}
}

// grower makes ops of no map: what may stand in a proof, by chance, part by part.
type grower struct {
	n    *noise
	in   api.Span
	keys []string
	ops  []api.Op
	most int
}

func (g *grower) sum() api.Sum { return sumOf(long(g.n.next())) }

// next is a key that may come in a part, if there is one.
func (g *grower) next(tower *string, bound int, end *string) (string, bool) {
	for range 12 {
		key := g.keys[g.n.below(len(g.keys))]
		if heightOf(key) <= bound && (tower == nil || key > *tower) && (end == nil || key < *end) {
			return key, true
		}
	}
	return "", false
}

func (g *grower) part(tower *string, bound int, end *string) {
	key, ok := g.next(tower, bound, end)
	if !ok || len(g.ops) >= g.most {
		switch {
		case tower == nil:
			g.ops = append(g.ops, head)
		case lies(g.in, *tower):
			g.ops = append(g.ops, api.Op{Kind: api.OpIn, Value: long(g.n.next())[:g.n.below(9)]})
		default:
			g.ops = append(g.ops, api.Op{Kind: api.OpOut, Sum: g.sum()})
		}
		return
	}
	o := kid(api.OpBoth, key)
	o.Count = uint64(g.n.below(4))
	switch {
	case !g.in.Open && key >= string(g.in.Hi):
		o.Kind, o.Sum = api.OpStay, g.sum()
	case key <= string(g.in.Lo):
		o.Kind, o.Sum = api.OpRight, g.sum()
	}
	g.ops = append(g.ops, o)
	if o.Kind != api.OpRight {
		g.part(tower, o.Level, &key)
	}
	if o.Kind != api.OpStay {
		g.part(&key, o.Level+1, end)
	}
}

// TestGrownOps: proofs of no map have texts too.
func TestGrownOps(t *testing.T) {
	n := &noise{x: 12}
	keys := append(append(bounds(garden()), byLevel...), bounds(n.chance(60))...)
	texts := 0
	for range 1500 {
		lo, hi := keys[n.below(len(keys))], keys[n.below(len(keys))]
		g := &grower{n: n, in: api.Span{Lo: []byte(lo), Hi: []byte(hi), Open: n.below(2) == 0 || lo >= hi}, keys: keys, most: n.below(60)}
		g.part(nil, 24, nil)
		p := proofOf(uint64(n.below(80)), g.ops...)
		switch e := holds(t, "grown ops", g.in, p); e {
		case api.OK:
			l, _ := extract.Texts(g.in, p)
			texts += len(l)
		case api.ErrCount:
		default:
			t.Fatalf("grown ops have the error %d", e)
		}
		if t.Failed() {
			t.FailNow()
		}
	}
	if texts < 10000 {
		t.Errorf("there were only %d texts", texts)
	}
}

// TestTextsOfWhatIsRead: the bytes that are taken are those of the proof that is read from them.
func TestTextsOfWhatIsRead(t *testing.T) {
	n := &noise{x: 13}
	for _, m := range someMaps(n) {
		p := planOf(m)
		for _, in := range append(some(n, spansOf(bounds(m)), 10), all) {
			read, e := codec.ReadProof(proofBytes(p.proof(in)))
			answers(t, "2.6: ReadProof", e, api.OK)
			tells(t, "what is read", in, read, p.walk(in).texts)
		}
	}
}
