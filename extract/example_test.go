package extract_test

import (
	"fmt"
	"strings"
	"testing"

	"witness/api"
	"witness/codec"
	"witness/extract"
	"witness/prove"
)

// three is the examples' map.
func three() map[string]string { return mapOf("a", "1", "b", "2", "c", "3") }

// examples are the texts that examples 1 and 2 tell: first byte, digest; of the first one lengths too.
var examples = []struct {
	in   api.Span
	want string
}{
	{all, "14 41 3e601634; 13 79 7aa6b947; 13 79 74b0c025; 12 1 f299791c; 13 79 007d7894; 11 38 9fcb9cb4; 01 2 f16ba6fa; 11 38 2713d675; 01 2 7f774bb4; 11 38 bd054698; 01 2 4efb97e7"},
	{span("b", "c"), "14 41 3e601634; 13 79 7aa6b947; 13 79 74b0c025; 13 79 007d7894; 11 38 2713d675; 01 2 7f774bb4"},
	{from("x"), "14 41 3e601634; 13 79 7aa6b947; 11 38 bd054698"},
}

// TestExamplesOfTexts: examples 1 to 3.
func TestExamplesOfTexts(t *testing.T) {
	s := wide(t)
	x := s.planted(three())
	for _, c := range examples {
		want := fmt.Sprintf("%d texts: %s", strings.Count(c.want, ";")+1, c.want)
		l, e := extract.Honest(s.b, x, c.in)
		if told(l) != want || e != api.OK {
			t.Errorf("12.2: examples 1 and 2: %s: %s, %d, want %s, 0", toldSpan(c.in), told(l), e, want)
		}
		p, _ := prove.Ops(s.b, x, c.in)
		l, e = extract.Texts(c.in, p)
		if told(l) != want || e != api.OK {
			t.Errorf("12.1: example 3: %s: %s, %d, want %s, 0", toldSpan(c.in), told(l), e, want)
		}
	}

	p, _ := prove.Ops(s.b, x, all)
	p.Ops[5].Value = []byte("9") // that of b
	honest, _ := extract.Honest(s.b, x, all)
	l, e := extract.Texts(all, p)
	if len(l) != len(honest) || e != api.OK {
		t.Fatalf("12.1: example 3: %s, %d", told(l), e)
	}
	unlike := map[int]bool{0: true, 1: true, 2: true, 4: true, 7: true, 8: true}
	for i := range l {
		if string(l[i]) == string(honest[i]) == unlike[i] {
			t.Errorf("12.1: example 3: text %d is %x, and was %x", i, l[i], honest[i])
		}
	}
	s.gives("example 5", x, all, codec.Proof(p), api.ErrLabel)
}

// TestExamplesOfErrors: examples 4 to 6.
func TestExamplesOfErrors(t *testing.T) {
	s := wide(t)
	x := s.planted(three())
	p, _ := prove.Ops(s.b, x, all)
	untold(t, "example 4", span("b", "b"), p, api.ErrBounds)
	untold(t, "example 4", all, api.Proof{}, api.ErrEnds)
	untold(t, "example 4", all, proofOf(0, api.Op{Kind: 9}), api.ErrKind)

	s.gives("example 5", x, all, codec.Proof(p), api.ErrHonest)
	inner, _ := prove.Span(s.b, x, span("b", "c"))
	s.gives("example 5", x, all, inner, api.ErrOp)

	wrong := x
	wrong.Label[0]++
	s.dishonest("example 6", wrong, all, api.ErrTree)
	wrong = x
	wrong.Addr.Sum[0]++
	s.dishonest("example 6", wrong, all, api.ErrTree)
}

// TestExamplesOfMaps: examples 7 and 8.
func TestExamplesOfMaps(t *testing.T) {
	one := listOf(mapOf("a", "1"))
	apart(t, "example 7", one, listOf(mapOf("a", "1")), api.ErrHonest)
	apart(t, "example 7", one, listOf(mapOf("a", "2")), api.ErrLabel)
	apart(t, "example 7", []api.Entry{{Key: []byte("b")}, {Key: []byte("a")}}, nil, api.ErrOrder)
	apart(t, "example 7", nil, []api.Entry{{Key: make([]byte, 1025)}}, api.ErrLimit)
	if extract.Shown(api.Twins{One: []byte("x"), Two: []byte("x")}) || extract.Shown(api.Twins{One: []byte("x"), Two: []byte("y")}) {
		t.Error("12.6: example 8: they are shown")
	}
}
