// Package spans: when a span is fit, and which keys it has: see DOC.md, 'Words'.
package spans

import (
	"bytes"

	"witness/api"
)

const maxBound = api.MaxKey + 1 // bytes of the key just behind the longest one

func less(a, b []byte) bool { return bytes.Compare(a, b) < 0 }

// Unfit is what a span that is not fit is refused with; OK, if it is fit.
func Unfit(s api.Span) api.Errno {
	switch {
	case len(s.Lo) > maxBound, !s.Open && len(s.Hi) > maxBound:
		return api.ErrLimit
	case !s.Open && !less(s.Lo, s.Hi):
		return api.ErrBounds
	}
	return api.OK
}

// Refused is what a question for the first entries of a span, so many at most, is refused with; OK, if it can be answered.
func Refused(s api.Span, most int) api.Errno {
	errno := Unfit(s)
	if errno == api.OK && (most < 1 || most > api.MaxAnswer) {
		return api.ErrMost
	}
	return errno
}

// BehindStart tells whether a key is above a span's first one.
func BehindStart(s api.Span, key []byte) bool { return less(s.Lo, key) }

// AheadOfEnd tells whether a span ends behind a key, or nowhere.
func AheadOfEnd(s api.Span, key []byte) bool { return s.Open || less(key, s.Hi) }

// Has tells whether a key lies in a span.
func Has(s api.Span, key []byte) bool { return !less(key, s.Lo) && AheadOfEnd(s, key) }
