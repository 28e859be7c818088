package console

import (
	"math"
	"strconv"

	"witness/api"
	"witness/digest"
)

// kind tells what an argument must be.
type kind int

const (
	aWord   kind = iota // a key, a value, a name, a span's bound
	aNumber             // a number
	anInt               // a number that is an int
	aMask               // a number that is a byte
	aKeep               // which writes a crash keeps
	aSum                // a digest's digits
	aProof              // a proof's digits
)

// argument is a word, and what it says.
type argument struct {
	text   string
	number uint64
	keep   []bool
	sum    api.Sum
	proof  []byte
}

func (a argument) asInt() int { return int(a.number) }

func (a argument) asBytes() []byte { return []byte(a.text) }

// argumentOf is a word as what it must be; false: it is none.
func argumentOf(word string, must kind) (argument, bool) {
	a, ok := argument{text: word}, true
	switch must {
	case aNumber:
		a.number, ok = numberOf(word, math.MaxUint64)
	case anInt:
		a.number, ok = numberOf(word, math.MaxInt)
	case aMask:
		a.number, ok = numberOf(word, math.MaxUint8)
	case aKeep:
		a.keep, ok = keepOf(word)
	case aSum:
		a.sum, ok = sumOf(word)
	case aProof:
		a.proof, ok = bytesOf(word)
	}
	return a, ok
}

// numberOf is a number that is at most so great.
func numberOf(word string, most uint64) (uint64, bool) {
	n, err := strconv.ParseUint(word, 10, 64)
	return n, err == nil && n <= most
}

func keepOf(word string) ([]bool, bool) {
	var l []bool
	for _, r := range word {
		if r != '0' && r != '1' {
			return nil, false
		}
		l = append(l, r == '1')
	}
	return l, true
}

func sumOf(word string) (api.Sum, bool) {
	s, errno := digest.Parse(word)
	return s, errno == api.OK
}

// bytesOf is the bytes of hexadecimal digits, two a byte.
func bytesOf(word string) ([]byte, bool) {
	b := make([]byte, len(word)/2)
	for place, r := range word {
		digit, ok := digitOf(r)
		if !ok || place/2 == len(b) {
			return nil, false
		}
		b[place/2] = b[place/2]<<4 | digit
	}
	return b, true
}

// digitOf is a hexadecimal digit's value.
func digitOf(r rune) (byte, bool) {
	switch {
	case r >= '0' && r <= '9':
		return byte(r - '0'), true
	case r >= 'a' && r <= 'f':
		return byte(r-'a') + 10, true
	case r >= 'A' && r <= 'F':
		return byte(r-'A') + 10, true
	}
	return 0, false
}

// spanOf is the span between two bounds.
func spanOf(lo, hi argument) api.Span {
	if hi.text == "-" {
		return api.Span{Lo: lo.asBytes(), Open: true}
	}
	return api.Span{Lo: lo.asBytes(), Hi: hi.asBytes()}
}
