package mirror

import (
	"math/big"

	"witness/api"
)

const (
	byteBits = 8
	lastByte = 1<<byteBits - 1
)

// halves are the two halves of a span; false: it has none, as no key lies between its first one and its end.
func halves(s api.Span) (lower, upper api.Span, ok bool) {
	for k := shared(s) + 1; k <= api.MaxKey; k++ {
		if m, ok := middle(s, k); ok {
			return api.Span{Lo: s.Lo, Hi: m}, api.Span{Lo: m, Hi: s.Hi, Open: s.Open}, true
		}
	}
	return api.Span{}, api.Span{}, false
}

// shared is how many bytes a span's Lo and its end begin with together: so does all that lies in it, and what is above Lo has more bytes.
func shared(s api.Span) int {
	n := 0
	for n < len(s.Lo) && (s.Open && s.Lo[n] == lastByte || !s.Open && n < len(s.Hi) && s.Lo[n] == s.Hi[n]) {
		n++
	}
	return n
}

// middle is the middle one of the texts of k bytes that lie within a span and behind its Lo. As they are all of one length they are in order as numbers are.
func middle(s api.Span, k int) ([]byte, bool) {
	first, last := firstAbove(s.Lo, k), lastBelow(s, k)
	if first.Cmp(last) > 0 {
		return nil, false
	}
	m := first.Add(first, last)
	return m.Rsh(m, 1).FillBytes(make([]byte, k)), true
}

// firstAbove is the first text of k bytes above another text, as a number (of more bytes, if there is none).
func firstAbove(text []byte, k int) *big.Int {
	n := front(text, k)
	if len(text) < k { // all that begin with a shorter text are above it
		return n
	}
	return n.Add(n, big.NewInt(1))
}

// lastBelow is the last text of k bytes that a span ends behind, as a number (below 0, if there is none).
func lastBelow(s api.Span, k int) *big.Int {
	one := big.NewInt(1)
	n := one.Lsh(one, uint(byteBits*k))
	if !s.Open {
		n = front(s.Hi, k)
		if len(s.Hi) > k { // what a longer text begins with is below it
			return n
		}
	}
	return n.Sub(n, big.NewInt(1))
}

// front is the first k bytes of a text, zeros behind it where it is shorter, as a number.
func front(text []byte, k int) *big.Int {
	n := new(big.Int).SetBytes(text[:min(k, len(text))])
	return n.Lsh(n, uint(byteBits*max(0, k-len(text))))
}
