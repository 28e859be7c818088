package verify_test

import (
	"fmt"
	"strings"
	"testing"

	"witness/api"
	"witness/verify"
)

// TestUnfitSpans are told ahead of all that is wrong with a proof, at their edges.
func TestUnfitSpans(t *testing.T) {
	long, tooLong := strings.Repeat("k", 1025), strings.Repeat("k", 1026)
	proofs := map[string]api.Errno{
		"\x00\x03": api.OK, "": api.ErrShort, "\x00": api.ErrEnds, "\x00\x07": api.ErrKind, "\x01\x03": api.ErrLabel, "\x00\x01\x00": api.ErrOp,
		string(make([]byte, api.MaxProof+1)): api.ErrLong,
	}
	for _, c := range []struct {
		s    api.Span
		want api.Errno
	}{
		{from(""), api.OK}, {from(long), api.OK}, {span("", "\x00"), api.OK}, {span("a", long), api.OK}, {span(long[:1024], long), api.OK}, {span("\x7f", "\x80"), api.OK},
		{api.Span{Hi: []byte(tooLong), Open: true}, api.OK}, {api.Span{Lo: []byte("b"), Hi: []byte("a"), Open: true}, api.OK}, {api.Span{Lo: []byte("b"), Hi: []byte("b"), Open: true}, api.OK},
		{api.Span{}, api.ErrBounds}, {span("a", "a"), api.ErrBounds}, {span("b", "a"), api.ErrBounds}, {span("ab", "a"), api.ErrBounds}, {span("\x80", "\x7f"), api.ErrBounds}, {span(long, long), api.ErrBounds}, {span("x", ""), api.ErrBounds},
		{from(tooLong), api.ErrLimit}, {from(tooLong + "k"), api.ErrLimit}, {span(tooLong, "z"), api.ErrLimit}, {span("a", tooLong), api.ErrLimit}, {span(tooLong, "a"), api.ErrLimit}, {span("z", tooLong), api.ErrLimit}, {span(tooLong, tooLong), api.ErrLimit},
	} {
		for proof, e := range proofs {
			if c.want != api.OK {
				e = c.want
			}
			if a, got := verify.Span(none, c.s, []byte(proof)); !isZero(a) || got != e {
				t.Errorf("11.1: the span %s and the proof %.9x: %s, %d, want %d", toldSpan(c.s), proof, toldAnswer(a), got, e)
			}
			answers(t, "11.3: Claim of the span "+toldSpan(c.s), verify.Claim(none, c.s, api.Answer{}, []byte(proof)), e)
		}
	}
	for proof := range proofs {
		for _, key := range []string{long, tooLong} {
			if v, there, e := verify.Key(none, []byte(key), []byte(proof)); v != nil || there || e != api.ErrLimit {
				t.Errorf("11.2: a key of %d bytes and the proof %.9x: %q, %v, %d", len(key), proof, v, there, e)
			}
		}
	}
}

// TestBytesThatAreNoProof are told ahead of what is wrong with the ops in front of them.
func TestBytesThatAreNoProof(t *testing.T) {
	p := planOf(garden())
	for _, in := range []api.Span{all, span("3", "8"), only("3"), from("zz")} {
		whole := p.proof(in)
		for _, ops := range [][]byte{nil, {3}, {1, 0}, {6, 5, 0, 1}, whole[1:]} {
			for _, c := range []struct {
				end  string
				want api.Errno
			}{
				{"\x00", api.ErrKind}, {"\x07", api.ErrKind}, {"\xff", api.ErrKind}, {"\x01", api.ErrShort}, {"\x01\x02x", api.ErrShort}, {"\x01\x80\x00", api.ErrForm}, {"\x01\x81\x80\x04", api.ErrLong},
				{"\x02" + strings.Repeat("s", 31), api.ErrShort}, {"\x06\x00\x00", api.ErrShort}, {"\x06\x18\x00\x00", api.ErrLong}, {"\x06\xff\x00\x00", api.ErrLong}, {"\x06\x00\x81\x08", api.ErrLong},
				{"\x05\x00\x00\x01" + strings.Repeat("s", 31), api.ErrShort}, {"\x04\x00\x00\x81\x80\x80\x80\x80\x80\x80\x80\x40" + strings.Repeat("s", 32), api.ErrLong},
			} {
				proof := cat(whole[:1], ops, []byte(c.end))
				refuses(t, "bytes that are no proof", p.root, in, proof, c.want)
			}
		}
	}
	for front, want := range map[string]api.Errno{"\x80": api.ErrShort, "\x80\x00\x03": api.ErrForm, "\x81\x80\x80\x80\x80\x80\x80\x80\x40\x03": api.ErrLong, "\x80\x80\x80\x80\x80\x80\x80\x80\x80\x02": api.ErrLong} {
		refuses(t, "a count that is none", none, all, []byte(front), want)
	}
	refuses(t, "the greatest count", none, all, []byte("\x80\x80\x80\x80\x80\x80\x80\x80\x40\x03"), api.ErrLabel)
}

// kid is an op that tells of a key, at the level that belongs to it.
func kid(kind int, key string) api.Op {
	return api.Op{Kind: kind, Level: heightOf(key) - 1, Key: []byte(key), Count: 1}
}

func at(level int, o api.Op) api.Op {
	o.Level = level
	return o
}

var (
	head = api.Op{Kind: api.OpHead}
	in   = api.Op{Kind: api.OpIn}
	out  = api.Op{Kind: api.OpOut}
)

// TestErrorsInTheirOrder, where several apply at one op; and of two ops the first one's.
func TestErrorsInTheirOrder(t *testing.T) {
	a, b, c, d := byLevel[0], byLevel[1], byLevel[2], byLevel[3] // of the heights 1 to 4
	stay, right, both := api.OpStay, api.OpRight, api.OpBoth
	for i, row := range []struct {
		s    api.Span
		ops  []api.Op
		want api.Errno
	}{
		// no next op, at each place
		{all, nil, api.ErrEnds},
		{all, []api.Op{kid(both, c)}, api.ErrEnds},
		{all, []api.Op{kid(both, c), head}, api.ErrEnds},
		{all, []api.Op{kid(both, c), kid(both, b), head}, api.ErrEnds},
		{all, []api.Op{kid(both, c), kid(both, b), head, in}, api.ErrEnds},
		{from("z"), []api.Op{kid(right, c)}, api.ErrEnds},
		{span("", "a"), []api.Op{kid(stay, c)}, api.ErrEnds},
		// ops that are left
		{all, []api.Op{head, head}, api.ErrEnds},
		{all, []api.Op{head, kid(both, a)}, api.ErrEnds},
		{all, []api.Op{kid(both, c), head, in, in}, api.ErrEnds},
		{from("z"), []api.Op{kid(right, c), out, out}, api.ErrEnds},
		{span("", "a"), []api.Op{kid(stay, c), head, at(9, kid(both, a))}, api.ErrEnds},
		// the head's own kids: no level is too high, no key is out of its bounds
		{all, []api.Op{at(23, kid(both, a))}, api.ErrHeight},
		{all, []api.Op{at(23, kid(stay, a))}, api.ErrHeight},
		{all, []api.Op{kid(stay, a)}, api.ErrOp},
		{all, []api.Op{kid(right, a)}, api.ErrOp},
		{all, []api.Op{kid(both, "")}, api.ErrOp},
		{all, []api.Op{kid(right, "")}, api.ErrEnds},
		{all, []api.Op{kid(right, ""), out}, api.ErrOp},
		{span("", "\x00"), []api.Op{kid(right, ""), in}, api.ErrCount},
		// below a kid of the head: its level is the bound, its key the end
		{all, []api.Op{kid(both, c), at(2, kid(stay, c))}, api.ErrLevel},
		{all, []api.Op{kid(both, c), at(2, kid(both, a))}, api.ErrLevel},
		{all, []api.Op{kid(both, c), at(23, kid(right, d))}, api.ErrLevel},
		{all, []api.Op{kid(both, c), at(1, kid(stay, d))}, api.ErrHeight},
		{all, []api.Op{kid(both, c), at(1, kid(stay, a))}, api.ErrHeight},
		{all, []api.Op{kid(both, a), at(0, kid(stay, d))}, api.ErrLevel},
		{span("", "z"), []api.Op{kid(both, lowest), kid(stay, c)}, api.ErrKey},
		{span("", "z"), []api.Op{kid(both, lowest), kid(both, a)}, api.ErrKey},
		{all, []api.Op{kid(both, c), kid(stay, b)}, api.ErrOp},
		{all, []api.Op{kid(both, c), kid(right, b)}, api.ErrOp},
		{span("", "a"), []api.Op{kid(stay, c), kid(both, b)}, api.ErrOp},
		{span("", "a"), []api.Op{kid(stay, lowest), kid(stay, c)}, api.ErrOp},
		{span("", "A"), []api.Op{kid(stay, lowest), kid(both, c)}, api.ErrKey},
		// a kid's tower: one more than its level is the bound, its key comes first, the end is that of the part
		{all, []api.Op{kid(both, b), head, at(2, kid(stay, c))}, api.ErrLevel},
		{all, []api.Op{kid(both, b), head, at(2, kid(stay, a))}, api.ErrLevel},
		{all, []api.Op{kid(both, b), head, at(1, kid(stay, d))}, api.ErrHeight},
		{all, []api.Op{kid(both, b), head, at(1, kid(stay, a))}, api.ErrHeight},
		{all, []api.Op{kid(both, b), head, kid(stay, a)}, api.ErrKey},
		{all, []api.Op{kid(both, b), head, kid(both, a)}, api.ErrKey},
		{all, []api.Op{kid(both, b), head, kid(both, b)}, api.ErrKey},
		{all, []api.Op{kid(both, lowest), head, kid(both, a)}, api.ErrEnds},
		{all, []api.Op{kid(both, lowest), head, kid(right, a)}, api.ErrOp},
		{all, []api.Op{kid(both, lowest), head, kid(stay, a)}, api.ErrOp},
		{from("z"), []api.Op{kid(right, c), at(3, kid(both, d))}, api.ErrLevel},
		{from("z"), []api.Op{kid(right, c), at(2, kid(both, d))}, api.ErrHeight},
		{from("z"), []api.Op{kid(right, c), kid(both, a)}, api.ErrKey},
		{from("z"), []api.Op{kid(right, c), kid(both, c)}, api.ErrKey},
		{from("z"), []api.Op{kid(right, lowest), kid(both, c)}, api.ErrOp},
		{from("z"), []api.Op{kid(right, lowest), kid(right, c), kid(right, b)}, api.ErrKey},
		// what no kids are left of
		{all, []api.Op{in}, api.ErrOp},
		{all, []api.Op{out}, api.ErrOp},
		{all, []api.Op{kid(both, c), in}, api.ErrOp},
		{all, []api.Op{kid(both, c), out}, api.ErrOp},
		{all, []api.Op{kid(both, c), head, head}, api.ErrOp},
		{all, []api.Op{kid(both, c), head, out}, api.ErrOp},
		{from("z"), []api.Op{kid(right, c), in}, api.ErrOp},
		{from("z"), []api.Op{kid(right, c), head}, api.ErrOp},
		{from(c), []api.Op{kid(right, c), out}, api.ErrOp},
		{from(c), []api.Op{kid(right, c), in}, api.ErrCount},
		{span("", c), []api.Op{kid(both, c)}, api.ErrOp},
		{span("", c+"\x00"), []api.Op{kid(stay, c)}, api.ErrOp},
		// of two ops the first one's, whatever the other is
		{all, []api.Op{kid(stay, c), at(23, kid(both, d))}, api.ErrOp},
		{all, []api.Op{at(3, kid(both, c)), kid(stay, b)}, api.ErrHeight},
		{all, []api.Op{kid(both, b), kid(stay, a), kid(both, d)}, api.ErrOp},
		{all, []api.Op{kid(both, c), kid(both, d), in, in, in}, api.ErrLevel},
		// the number of keys, behind all ops
		{span("", "a"), []api.Op{kid(stay, c), head}, api.ErrCount},
		{span("", "a"), []api.Op{kid(stay, c), head, head}, api.ErrEnds},
		{span("", "a"), []api.Op{kid(stay, c), in}, api.ErrOp},
		{all, []api.Op{kid(both, c), head, in}, api.ErrCount},
		{all, []api.Op{head}, api.OK},
	} {
		what := fmt.Sprint("row ", i)
		proof := proofBytes(0, row.ops...)
		if _, _, e := rightly(row.s, proof); e != row.want {
			t.Errorf("%s: the model says %d, and the row %d", what, e, row.want)
		}
		holds(t, what, api.Sum{}, row.s, proof)
	}
}

// TestEveryNextOp: behind each front of honest ops, each op out of many.
func TestEveryNextOp(t *testing.T) {
	n := &noise{x: 40}
	told := map[api.Errno]int{}
	for _, m := range []map[string]string{garden(), fan(true), chain(6), n.chance(12)} {
		p := planOf(m)
		for _, s := range some(n, spansOf(bounds(m)), 12) {
			ops := p.ops(s)
			for cut := range len(ops) + 1 {
				for _, next := range some(n, manyOps(n, p), 40) {
					proof := proofBytes(uint64(n.below(len(m)+1)), append(ops[:cut:cut], next)...)
					own, a, e := rightly(s, proof)
					told[e]++
					if e == api.OK {
						takes(t, "a front of honest ops, and one more", own, s, proof, a)
						continue
					}
					if a, got := verify.Span(p.root, s, proof); !isZero(a) || got != e {
						t.Fatalf("11.1: the first %d ops of %s and the op %d, level %d, %.20q: %d, want %d", cut, toldSpan(s), next.Kind, next.Level, next.Key, got, e)
					}
				}
			}
		}
	}
	for _, e := range []api.Errno{api.OK, api.ErrEnds, api.ErrLevel, api.ErrHeight, api.ErrKey, api.ErrOp, api.ErrCount} {
		if told[e] == 0 {
			t.Errorf("the error %d never came", e)
		}
	}
}

// manyOps are ops of all kinds, of a map's keys and others, most at the levels that belong to them.
func manyOps(n *noise, p *plan) []api.Op {
	ops := []api.Op{head, in, out}
	for _, key := range append(bounds(p.m), byLevel...) {
		if len(key) > api.MaxKey {
			continue
		}
		for _, kind := range []int{api.OpStay, api.OpRight, api.OpBoth} {
			ops = append(ops, kid(kind, key), kid(kind, key), at(n.below(24), kid(kind, key)))
		}
	}
	return ops
}
