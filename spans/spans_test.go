package spans_test

import (
	"strings"
	"testing"

	"witness/api"
	"witness/spans"
)

func from(lo string) api.Span { return api.Span{Lo: []byte(lo), Open: true} }

func span(lo, hi string) api.Span { return api.Span{Lo: []byte(lo), Hi: []byte(hi)} }

func TestUnfit(t *testing.T) {
	long, tooLong := strings.Repeat("k", 1025), strings.Repeat("k", 1026)
	for _, c := range []struct {
		s    api.Span
		want api.Errno
	}{
		{from(""), api.OK}, {from(long), api.OK}, {span("", "\x00"), api.OK}, {span("a", long), api.OK}, {span(long[:1024], long), api.OK},
		{span("\x7f", "\x80"), api.OK}, {api.Span{Hi: []byte(tooLong), Open: true}, api.OK}, {api.Span{Lo: []byte("b"), Hi: []byte("a"), Open: true}, api.OK},
		{api.Span{}, api.ErrBounds}, {span("a", "a"), api.ErrBounds}, {span("ab", "a"), api.ErrBounds}, {span("\x80", "\x7f"), api.ErrBounds}, {span(long, long), api.ErrBounds},
		{from(tooLong), api.ErrLimit}, {span(tooLong, "z"), api.ErrLimit}, {span("a", tooLong), api.ErrLimit}, {span(tooLong, "a"), api.ErrLimit}, {span(tooLong, tooLong), api.ErrLimit},
	} {
		if got := spans.Unfit(c.s); got != c.want {
			t.Errorf("Unfit(%.20q, %.20q, %v) = %d, want %d", c.s.Lo, c.s.Hi, c.s.Open, got, c.want)
		}
	}
}

func TestRefused(t *testing.T) {
	for most, want := range map[int]api.Errno{-1: api.ErrMost, 0: api.ErrMost, 1: api.OK, 4096: api.OK, 4097: api.ErrMost} {
		for _, s := range []api.Span{from(""), span("a", "b"), span("a", "a"), from(strings.Repeat("k", 1026))} {
			if unfit := spans.Unfit(s); unfit != api.OK {
				want = unfit
			}
			if got := spans.Refused(s, most); got != want {
				t.Errorf("Refused(%.20q, %.20q, %v, %d) = %d, want %d", s.Lo, s.Hi, s.Open, most, got, want)
			}
		}
	}
}

func TestKeys(t *testing.T) {
	keys := []string{"", "\x00", "a", "a\x00", "b", "\x7f", "\x80"}
	for _, lo := range keys {
		for _, hi := range keys {
			for _, open := range []bool{false, true} {
				s := api.Span{Lo: []byte(lo), Hi: []byte(hi), Open: open}
				for _, key := range keys {
					ahead := open || key < hi
					if spans.BehindStart(s, []byte(key)) != (key > lo) || spans.AheadOfEnd(s, []byte(key)) != ahead || spans.Has(s, []byte(key)) != (key >= lo && ahead) {
						t.Errorf("the span %q, %q, %v and the key %q", lo, hi, open, key)
					}
				}
			}
		}
	}
}
