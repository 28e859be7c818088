package prove_test

import (
	"bytes"
	"slices"
	"strings"
	"testing"

	"witness/api"
	"witness/prove"
	"witness/skip"
)

// line is an op as the chapter tells it: a sum by its front.
type line struct {
	kind, level int
	key         string
	count       uint64
	sum, value  string
}

const noSum = "00000000"

func (s store) tells(x api.Tree, in api.Span, size int, want ...line) {
	s.t.Helper()
	p, e := prove.Ops(s.b, x, in)
	var got []line
	for _, o := range p.Ops {
		got = append(got, line{o.Kind, o.Level, string(o.Key), o.Count, front(o.Sum), string(o.Value)})
	}
	if e != api.OK || p.Count != x.Count || !slices.Equal(got, want) {
		s.t.Errorf("10.1: Ops of %s: %d keys, %v, %d, want %d keys, %v, 0", toldSpan(in), p.Count, got, e, x.Count, want)
	}
	if n, e := prove.Size(s.b, x, in); n != size || e != api.OK {
		s.t.Errorf("10.2: Size of %s: %d, %d, want %d, 0", toldSpan(in), n, e, size)
	}
}

func (s store) keyFails(x api.Tree, key string, want api.Errno) {
	s.t.Helper()
	if l, e := prove.Key(s.b, x, []byte(key)); l != nil || e != want {
		s.t.Errorf("10.3: Key(%.20q): %.100x, %d, want no bytes, %d", key, l, e, want)
	}
}

// TestExamples are those of the chapter.
func TestExamples(t *testing.T) {
	s := wide(t)
	x := s.built(mapOf("a", "1", "b", "2", "c", "3"))
	stayC := line{api.OpStay, 3, "c", 1, "bd054698", ""}
	rightA := line{api.OpRight, 1, "a", 2, "f299791c", ""}
	rightC := line{api.OpRight, 3, "c", 1, "74b0c025", ""}
	head := line{kind: api.OpHead, sum: noSum}
	in := func(value string) line { return line{kind: api.OpIn, sum: noSum, value: value} }
	out := func(sum string) line { return line{kind: api.OpOut, sum: sum} }

	one := func() {
		t.Helper()
		s.tells(x, all, 26, line{api.OpBoth, 3, "c", 1, noSum, ""}, line{api.OpBoth, 1, "a", 2, noSum, ""}, head,
			line{api.OpBoth, 0, "b", 1, noSum, ""}, in("1"), in("2"), in("3"))
		if l, _ := prove.Span(s.b, x, all); !bytes.HasPrefix(l, []byte{3, 6, 3, 1, 'c', 1, 6, 1}) || len(l) != 26 {
			t.Errorf("10.2: Span = %x", l)
		}
	}
	two := func() {
		t.Helper()
		s.tells(x, span("b", "c"), 115, stayC, rightA, line{api.OpRight, 0, "b", 1, "9fcb9cb4", ""}, in("2"))
	}
	others := func() {
		t.Helper()
		s.tells(x, prove.Only([]byte("aa")), 145, stayC, rightA, line{api.OpStay, 0, "b", 1, "2713d675", ""}, out("f16ba6fa"))
		s.tells(x, prove.Only([]byte("c")), 41, rightC, in("3"))
		s.tells(x, span("", "a"), 76, stayC, line{api.OpStay, 1, "a", 2, "007d7894", ""}, head)
		s.tells(x, from("x"), 71, rightC, out("4efb97e7"))
	}
	one()
	two()
	others()

	s.fails("example 6", x, span("x", "x"), api.ErrBounds)
	s.fails("example 6", x, from(strings.Repeat("k", 1026)), api.ErrLimit)
	s.keyFails(x, strings.Repeat("k", 1025), api.ErrLimit)
	if l, e := prove.Key(s.b, x, make([]byte, 1024)); len(l) == 0 || e != api.OK {
		t.Errorf("10.3: Key of 1024 bytes: %x, %d", l, e)
	}

	empty, _ := skip.Empty(s.b)
	s.tells(empty, all, 2, head)
	if l, e := prove.Span(s.b, empty, all); !bytes.Equal(l, []byte{0, 3}) || e != api.OK {
		t.Errorf("10.2: Span of the empty map: %x, %d", l, e)
	}

	tower := planOf(mapOf("a", "1", "b", "2", "c", "3")).towers["b"]
	s.forget(towerAddr(tower))
	s.fails("b's tower is forgotten", x, all, api.ErrTree)
	s.fails("b's tower is forgotten", x, span("b", "c"), api.ErrTree)
	others()
	s.put(api.KindTower, recordOf(tower))
	one()
	two()
	s.forget(valueAddr("2"))
	s.fails("b's value is forgotten", x, all, api.ErrTree)
	s.fails("b's value is forgotten", x, span("b", "c"), api.ErrTree)
	others()
}
