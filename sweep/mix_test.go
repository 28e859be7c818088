package sweep_test

import (
	"fmt"
	"iter"
	"slices"
	"strings"
	"testing"

	"witness/api"
	"witness/sweep"
)

// spring is a base that tells how it was ranged over.
type spring struct {
	l      []api.Entry
	end    api.Errno
	began  int // how often it was ranged over
	asked  int // how many things it was asked for, its end among them
	left   int // how often a loop over it was left early
	closed int // how often a loop over it has ended, whichever way
}

func (s *spring) each(yield func(api.Entry, api.Errno) bool) {
	s.began++
	s.asked = 0
	defer func() { s.closed++ }()
	for _, e := range s.l {
		s.asked++
		if !yield(e, api.OK) {
			s.left++
			return
		}
	}
	s.asked++
	if s.end != api.OK && !yield(api.Entry{Key: []byte("not the zero entry")}, s.end) {
		s.left++
	}
}

// mix is what Mix must give, by the chapter's words.
func mix(base []api.Entry, end api.Errno, l []api.Edit, in api.Span) ([]api.Entry, api.Errno) {
	m := map[string]string{}
	for _, e := range base {
		m[string(e.Key)] = string(e.Value)
	}
	var inside []api.Edit
	for _, e := range l {
		if lies(in, string(e.Key)) {
			inside = append(inside, e)
		}
	}
	given := listOf(edited(m, inside))
	if end == api.OK {
		return given, end
	}
	if len(base) == 0 {
		return nil, end
	}
	last := string(base[len(base)-1].Key)
	return slices.DeleteFunc(given, func(e api.Entry) bool { return string(e.Key) > last }), end
}

// mixes holds Mix over a base, to its end and left behind each thing.
func mixes(t *testing.T, base []api.Entry, end api.Errno, l []api.Edit, in api.Span) {
	t.Helper()
	want, ended := mix(base, end, l, in)
	what := fmt.Sprintf("9.6: Mix of %s and %d with %s in %s", toldEntries(base), end, toldEdits(l), toldSpan(in))
	s := &spring{l: base, end: end}
	it := sweep.Mix(s.each, l, in)
	if s.began != 0 {
		t.Errorf("%s: the base is ranged over ahead of the answer", what)
	}
	for range 2 {
		gives(t, what, it, want, ended)
	}
	if s.began != 2 || s.closed != 2 {
		t.Errorf("%s: the base is begun %d times and ended %d times, want 2", what, s.began, s.closed)
	}
	for n := range want {
		s.began, s.left, s.closed = 0, 0, 0
		leftBehind(t, what, it, want[:n+1])
		ahead := 0
		for _, e := range base {
			if string(e.Key) < string(want[n].Key) {
				ahead++
			}
		}
		if s.began != 1 || s.closed != 1 || s.asked > ahead+1 {
			t.Errorf("%s: left behind %d things the base is begun %d times, ended %d times and asked for %d things, of which %d are ahead", what, n+1, s.began, s.closed, s.asked, ahead)
		}
		if s.asked <= len(base) && s.left != 1 {
			t.Errorf("%s: left behind %d things the base goes on", what, n+1)
		}
	}
}

// leftBehind leaves a loop behind some entries.
func leftBehind(t *testing.T, what string, it iter.Seq2[api.Entry, api.Errno], want []api.Entry) {
	t.Helper()
	var got []api.Entry
	for entry, e := range it {
		answers(t, what, e, api.OK)
		if got = append(got, entry); len(got) == len(want) {
			break
		}
	}
	if !slices.EqualFunc(got, want, sameEntry) {
		t.Errorf("%s: left early it gave %s, want %s", what, toldEntries(got), toldEntries(want))
	}
}

// TestMixes: any base, any edits, any span.
func TestMixes(t *testing.T) {
	n := &noise{x: 6}
	for round := 0; round < 1500 && !t.Failed(); round++ {
		in := n.span()
		base := entriesIn(n.chance(n.below(20)), in)
		end := api.OK
		if n.below(3) == 0 {
			end = []api.Errno{api.ErrTree, api.ErrPower, api.ErrStale, -1}[n.below(4)]
		}
		mixes(t, base, end, n.edits(n.below(15)), in)
	}
}

// TestMixOfFew: the edges that the chapter names.
func TestMixOfFew(t *testing.T) {
	edits := [][]api.Edit{
		nil,
		{puts("a", "9")},
		{puts("c", "9")},
		{puts("d", "9"), puts("b", "8")},
		{gone("c")},
		{gone("a"), gone("z"), gone("")},
		{puts("", "first"), puts("zz", "last")},
		{puts("c", "1"), gone("c"), puts("c", "2"), puts("a", "1"), gone("a")},
		{puts("c", "1"), puts("c", "")},
	}
	bases := [][]api.Entry{nil, list("", "0"), list("c", "3"), list("a", "1", "c", "3", "e", "5")}
	for _, l := range edits {
		for _, in := range []api.Span{all, span("b", "d"), span("a", "c"), span("c", "e"), from("c"), from("zzz"), span("", "\x00")} {
			for _, base := range bases {
				base = slices.DeleteFunc(slices.Clone(base), func(e api.Entry) bool { return !lies(in, string(e.Key)) })
				for _, end := range []api.Errno{api.OK, api.ErrTree, api.ErrPower} {
					mixes(t, base, end, l, in)
				}
			}
			want, _ := mix(nil, api.OK, l, in)
			gives(t, "9.6: Mix over no base", sweep.Mix(nil, l, in), want, api.OK)
		}
	}
}

// TestMixOfUnfitSpans: the base is not ranged over.
func TestMixOfUnfitSpans(t *testing.T) {
	over := strings.Repeat("k", api.MaxKey+2)
	for want, spans := range map[api.Errno][]api.Span{
		api.ErrLimit:  {from(over), span(over, over), span("", over), span("z", over), span(over, "a")},
		api.ErrBounds: {span("", ""), span("b", "a"), span("c", "c"), span(over[1:], over[2:])},
	} {
		for _, in := range spans {
			s := &spring{l: list("c", "3")}
			it := sweep.Mix(s.each, []api.Edit{puts("c", "4")}, in)
			for range 2 {
				gives(t, "9.6: Mix in "+toldSpan(in), it, nil, want)
			}
			gives(t, "9.6: Mix over no base in "+toldSpan(in), sweep.Mix(nil, nil, in), nil, want)
			for range it {
				break
			}
			if s.began != 0 {
				t.Errorf("9.6: in a span that is not fit the base is ranged over")
			}
		}
	}
	in := span(over[2:], over[1:])
	gives(t, "9.6: Mix between the longest bounds", sweep.Mix(nil, []api.Edit{puts(over[2:], "in"), puts(over[1:], "out")}, in), list(over[2:], "in"), api.OK)
}

// TestMixTakesAnyEdits: of more than a batch, and longer than a map's.
func TestMixTakesAnyEdits(t *testing.T) {
	var l []api.Edit
	for i := range api.MaxBatch + 50 {
		l = append(l, puts(fmt.Sprint("k", i%(api.MaxBatch+10)), fmt.Sprint(i)))
	}
	l = append(l, puts(strings.Repeat("l", 5000), strings.Repeat("v", api.MaxValue+1)), gone("k7"))
	want, _ := mix(list("k5", "x", "k7", "y"), api.OK, l, all)
	gives(t, "9.6: Mix of many", sweep.Mix(fixed(list("k5", "x", "k7", "y"), api.OK), l, all), want, api.OK)
}

// TestMixOverWhatIsNoBase: what is given is free, but it ends.
func TestMixOverWhatIsNoBase(t *testing.T) {
	for _, base := range [][]api.Entry{
		list("c", "3", "a", "1"), list("a", "1", "a", "2", "a", "3"), list("z", "1", "", "2", "z", "3"), {{}, {}, {Key: make([]byte, 3000)}},
	} {
		for _, in := range []api.Span{all, span("b", "d"), from("zz")} {
			for _, l := range [][]api.Edit{nil, {puts("a", "9"), gone("c")}, {gone(""), puts("b", "1"), gone("z")}} {
				n := 0
				for range sweep.Mix(fixed(base, api.ErrTree), l, in) {
					n++
				}
				if n > len(base)+len(l)+1 {
					t.Errorf("9.6: Mix of %d entries gives %d", len(base), n)
				}
			}
		}
	}
}

// TestMixOfAMix: its answer is a base.
func TestMixOfAMix(t *testing.T) {
	s := wide(t)
	n := &noise{x: 66}
	for range 20 {
		m := n.chance(20)
		x := s.planted(m)
		in := n.span()
		one, two := n.edits(n.below(9)), n.edits(n.below(9))
		it := sweep.Mix(sweep.Mix(sweep.Each(s.b, x, in), one, in), two, in)
		gives(t, "9.6: Mix of Mix", it, entriesIn(edited(edited(m, one), two), in), api.OK)
	}
}

// TestMixBehindAnError: a base that would go on is left there.
func TestMixBehindAnError(t *testing.T) {
	asked, left := 0, false
	base := func(yield func(api.Entry, api.Errno) bool) {
		for i, e := range []api.Errno{api.OK, api.ErrTree, api.OK, api.ErrPower} {
			asked++
			if !yield(list(fmt.Sprint("k", i), "v")[0], e) {
				left = true
				return
			}
		}
	}
	gives(t, "9.6: Mix over a base that would go on", sweep.Mix(base, []api.Edit{puts("a", "1"), puts("k2", "2")}, all), list("a", "1", "k0", "v"), api.ErrTree)
	if asked != 2 || !left {
		t.Errorf("9.6: behind its error the base is asked for %d things more, and is left: %v", asked-2, left)
	}
}
