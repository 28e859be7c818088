package mirror_test

import (
	"bytes"
	"fmt"
	"math/big"
	"math/rand/v2"
	"strings"
	"testing"

	"witness/api"
	"witness/codec"
	"witness/mirror"
	"witness/spans"
)

func spanWords(s api.Span) string { return fmt.Sprintf("%x to %x %v", s.Lo, s.Hi, s.Open) }

func halvesWords(lower, upper api.Span, ok bool) string {
	if !ok {
		return "none"
	}
	return spanWords(lower) + ", " + spanWords(upper)
}

// at is the halves of a span at a text.
func at(s api.Span, m string) string {
	return halvesWords(api.Span{Lo: s.Lo, Hi: []byte(m)}, api.Span{Lo: []byte(m), Hi: s.Hi, Open: s.Open}, true)
}

// TestHalvesOf: where spans are cut.
func TestHalvesOf(t *testing.T) {
	long := func(c string, n int) string { return letters(c, n) }
	for i, row := range []struct {
		s    api.Span
		want string // the middle; "": no halves
	}{
		{all, "\x7f"}, // example 10, and what comes of it
		{span("a", "b"), "a\x7f"},
		{span("a", "a\x00"), ""},
		{from(long("\xff", 1024)), ""},
		{span("", "\x7f"), "\x3f"},
		{from("\x7f"), "\xbf"},
		{from("\xfd"), "\xfe"}, // two texts; then one; then none of one byte
		{from("\xfe"), "\xff"},
		{from("\xff"), "\xff\x7f"},
		{from("\xff\xff"), "\xff\xff\x7f"},
		{from(long("\xff", 1023)), long("\xff", 1023) + "\x7f"},
		{from(long("\xff", 1023) + "\xfe"), long("\xff", 1024)},
		{from(long("\xff", 1025)), ""},
		{from(long("\xff", 1023) + "\x00\xff"), long("\xff", 1023) + "\x80"}, // 01 to ff
		{span("", "\x02"), "\x00"},                                           // two texts: the lower one is the middle
		{span("", "\x03"), "\x01"},
		{span("", "\x04"), "\x01"},
		{span("", "\x01"), "\x00"},
		{span("", "\x00"), ""},
		{span("", "\x00\x00"), "\x00"},
		{span("", "\x00\x00\x00"), "\x00"},
		{span("\x00", "\x00\x00"), ""},
		{span("\x00", "\x00\x00\x00"), "\x00\x00"},
		{span("\x00", "\x00\x01"), "\x00\x00"},
		{span("\x00", "\x01"), "\x00\x7f"},
		{span("a", "a\x00\x00"), "a\x00"},
		{span("a", "a\x00\x00\x00\x00"), "a\x00"},
		{span("a\x00", "a\x00\x00\x00\x00"), "a\x00\x00"},
		{span("a\x00\x00\x00", "a\x00\x00\x00\x00"), ""},
		{span("a", "b\x00"), "b"},
		{span("a", "b\x00\x00"), "b"},
		{span("a", "c"), "b"},
		{span("a", "d"), "b"},
		{span("a", "e"), "c"},
		{span("a", "ab"), "a\x30"}, // 98 texts, 00 to 61: 48 ahead of the middle
		{span("a\xff", "b"), "a\xff\x7f"},
		{span("a\xff\xff\xff", "b"), "a\xff\xff\xff\x7f"},
		{span("a\xfe", "b"), "a\xff"},
		{span("a\x80\x00", "b"), "a\xc0"}, // 81 to ff, 127 of them
		{span("ax", "ay"), "ax\x7f"},
		{span("xa", "xc"), "xb"},
		{span("abc", "abd"), "abc\x7f"},
		{span(long("x", 1023), long("x", 1024)), long("x", 1023) + "\x3b"}, // 00 to 77
		{span(long("x", 1024), long("x", 1023)+"y"), ""},
		{span(long("x", 1024), long("x", 1023)+"z"), long("x", 1023) + "y"},
		{span(long("x", 1024), long("x", 1025)), ""},
		{span(long("x", 1023)+"\xff", long("x", 1022)+"y"), ""},
		{span(long("x", 1022)+"\xff", long("x", 1022)+"\xff\xff"), long("x", 1022) + "\xff\x7f"},
		{span(long("x", 1025), long("y", 1025)), "y"},
		{span(long("x", 1025), long("x", 1024)+"y"), ""},
		{span(long("\x00", 1023), long("\x00", 1024)), ""},
		{span(long("\x00", 1023), long("\x00", 1025)), long("\x00", 1024)},
		{span(long("\x00", 1024), long("\x00", 1025)), ""},
		{span("", long("\x00", 1025)), "\x00"},
		{span("\x00", "\x00"+long("\xff", 1024)), "\x00\x7f"},
	} {
		want := "none"
		if row.want != "" {
			want = at(row.s, row.want)
		}
		is(t, fmt.Sprintf("18.6: row %d: %s", i, spanWords(row.s)), halvesWords(mirror.Halves(row.s)), want)
		is(t, fmt.Sprintf("the model: row %d: %s", i, spanWords(row.s)), halvesWords(halved(row.s)), want)
	}
}

// listed is 18.6 by all texts of up to three bytes.
func listed(s api.Span) string {
	for k := 1; k <= 3; k++ {
		var l []string
		for n := range 1 << (8 * k) {
			text := []byte{byte(n >> 16), byte(n >> 8), byte(n)}[3-k:]
			if bytes.Compare(text, s.Lo) > 0 && (s.Open || bytes.Compare(text, s.Hi) < 0) {
				l = append(l, string(text))
			}
		}
		if len(l) > 0 {
			return at(s, l[(len(l)-1)/2])
		}
	}
	return "none"
}

// TestHalvesByList: all spans between some short texts.
func TestHalvesByList(t *testing.T) {
	t.Parallel()
	var texts []string
	for _, c := range []string{"\x00", "\x01", "a", "b", "d", "\xfe", "\xff"} {
		texts = append(texts, c)
		for _, e := range []string{"\x00", "\x7f", "\xff"} {
			texts = append(texts, c+e)
		}
	}
	three := 0
	for _, lo := range append(texts, "") {
		spans := []api.Span{from(lo)}
		for _, hi := range texts {
			if lo < hi {
				spans = append(spans, span(lo, hi))
			}
		}
		for _, s := range spans {
			got := halvesWords(mirror.Halves(s))
			if lower, _, ok := mirror.Halves(s); !ok || len(lower.Hi) > 2 {
				if three++; three > 12 { // there are 2^24 texts to look through
					is(t, "18.6: "+spanWords(s), got, halvesWords(halved(s)))
					continue
				}
			}
			is(t, "18.6: "+spanWords(s), got, listed(s))
		}
	}
}

// longText is a text of up to MaxKey + 1 bytes that is often near a bound.
func longText(r *rand.Rand) []byte {
	b := make([]byte, []int{r.IntN(4), r.IntN(40), api.MaxKey - 2 + r.IntN(4)}[r.IntN(3)])
	for i := range b {
		b[i] = []byte{0, 0xff, 0xff, 'x', byte(r.IntN(256))}[r.IntN(5)]
	}
	return b
}

// nearby is a span that is fit, with bounds that may differ late, or in their length alone.
func nearby(r *rand.Rand) api.Span {
	for {
		s := api.Span{Lo: longText(r), Hi: longText(r), Open: r.IntN(7) == 0}
		if r.IntN(3) == 0 {
			s.Hi = append(bytes.Clone(s.Lo), bytes.Repeat([]byte{byte(r.IntN(2))}, r.IntN(3))...)
			if len(s.Hi) > 0 {
				s.Hi[len(s.Hi)-1]++
			}
		}
		if spans.Unfit(s) == api.OK {
			return s
		}
	}
}

// TestHalvesByDefinition: as many texts lie ahead of the middle as the chapter says, and there are no shorter ones; as numbers they are greater than any machine's.
func TestHalvesByDefinition(t *testing.T) {
	t.Parallel()
	r := noise(6)
	one := big.NewInt(1)
	met := map[string]int{}
	for i := range 4000 {
		s := nearby(r)
		lower, upper, ok := mirror.Halves(s)
		is(t, "18.6: "+spanWords(s), halvesWords(lower, upper, ok), halvesWords(halved(s)))
		if !ok {
			met["none"]++
			continue
		}
		m := lower.Hi
		is(t, "18.6: the halves", halvesWords(lower, upper, ok), at(s, string(m)))
		c, ahead := countOf(s, len(m)), countOf(api.Span{Lo: s.Lo, Hi: m}, len(m))
		met[fmt.Sprint("odd ", c.Bit(0))]++
		if len(m) > 8 {
			met["long"]++
		}
		if want := c.Sub(c, one).Rsh(c, 1); ahead.Cmp(want) != 0 {
			t.Fatalf("18.6: %s: %v texts lie ahead of %x, want %v", spanWords(s), ahead, m, want)
		}
		for k := 1; k < len(m) && i%10 == 0; k++ {
			if countOf(s, k).Sign() != 0 {
				t.Fatalf("18.6: %s: the middle is %x, and there are texts of %d bytes", spanWords(s), m, k)
			}
		}
	}
	if met["none"] < 50 || met["odd 0"] < 500 || met["odd 1"] < 500 || met["long"] < 200 {
		t.Errorf("18.6: spans of all sorts: %v", met)
	}
}

// countOf is how many texts of k bytes lie in a span behind its Lo: those below its end, less those that are not above its Lo, counted byte by byte.
func countOf(s api.Span, k int) *big.Int {
	below := new(big.Int).Exp(big.NewInt(256), big.NewInt(int64(k)), nil)
	if !s.Open {
		below = countBelow(s.Hi, k)
	}
	above := countBelow(s.Lo, k)
	if len(s.Lo) == k {
		above.Add(above, big.NewInt(1)) // Lo itself
	}
	return below.Sub(below, above)
}

// countBelow is how many texts of k bytes are less than a text: with each of its bytes, those that part there.
func countBelow(text []byte, k int) *big.Int {
	n := new(big.Int)
	for i := range k {
		n.Mul(n, big.NewInt(256))
		if i < len(text) {
			n.Add(n, big.NewInt(int64(text[i])))
		}
	}
	if len(text) > k {
		n.Add(n, big.NewInt(1)) // what it begins with
	}
	return n
}

// TestHalvesAsked: what a mirror asks for, where proofs are refused again and again: the lower half first.
func TestHalvesAsked(t *testing.T) {
	v := some(t, 3)
	commits(t, v, edit("a", "1"), edit("b", "2"), edit("z", "3"))
	w := some(t, 3)
	p := newPair(t, w, api.Head{})
	p.start()
	tooLong := func(s api.Span) bool { // more than two keys, or it goes over a text between
		shown := 0
		for _, key := range []string{"a", "b", "z"} {
			if bytes.Compare(s.Lo, []byte(key)) <= 0 && (s.Open || bytes.Compare([]byte(key), s.Hi) < 0) {
				shown++
			}
		}
		return shown > 1
	}
	var l []string
	for p.x.question != nil {
		q := p.asked()
		x, _ := codec.ReadMessage(q)
		b := mirror.Serve(v, q)
		if x.Kind == api.AskProof {
			l = append(l, fmt.Sprintf("%x-%x", x.Span.Lo, x.Span.Hi))
			if tooLong(x.Span) {
				b = no(api.ErrProof)
			}
		}
		p.hears("halves", b)
	}
	is(t, "18.6: the spans", strings.Join(l, " "), "- -7f -3f 3f-7f 3f-5f 5f-7f 5f-6f 5f-67 5f-63 5f-61 61-63 61-62 62-63 63-67 67-6f 6f-7f 7f-")
	followed(t, "halves", p.m, w, v)
}

// TestNoHalves: refused down to a span without halves, the round fails; up to there it goes on. Down the lower halves, and down the upper ones.
func TestNoHalves(t *testing.T) {
	t.Parallel()
	v := some(t, 3)
	commits(t, v, edit("a", "1"), edit(letters("\xff", 1024), "2"))
	for _, row := range []struct {
		lower bool
		least int // refusals that are heard
	}{{true, 9}, {false, 8 * 1024}} {
		w := some(t, 3)
		before := everything(t, w)
		m := mirror.New(w, api.Head{})
		starts(t, m)
		until(t, m, v, api.AskProof)
		var err error
		refused := 0
		for err == nil {
			s := question(t, m).Span
			_, _, ok := halved(s)
			if refused++; refused > 20000 {
				t.Fatal("18.6: there is no end")
			}
			if err = m.Hear(no(api.ErrProof)); (err == nil) != ok {
				t.Fatalf("18.6: Hear at the span %s: %s", spanWords(s), told(err))
			}
			if !row.lower && ok {
				must(t, "18.5: Hear of the lower half's proof", answered(t, m, v))
			}
		}
		fails(t, "18.5: Hear", err, api.ErrRefused)
		idle(t, "no halves", m)
		is(t, "18.8: the copy", everything(t, w), before)
		if refused < row.least || m.Trusted() != (api.Head{}) {
			t.Errorf("18.6: %d refusals", refused)
		}
	}
}
