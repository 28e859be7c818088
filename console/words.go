package console

import (
	"strings"

	"witness/api"
)

// Where one stands in a line, between two of its runes.
const (
	between      = iota // where a word could begin
	inWord              // in a word without quotes
	inQuotes            // in a quoted word
	behindStroke        // in a quoted word, right behind a stroke
	atHigh              // at the first digit of a byte
	atLow               // at its second digit
	behindQuotes        // right behind a quoted word
)

// cutter takes a line apart, rune by rune. What it takes are pieces of the line, by their places: so a byte that is no rune stays as it is.
type cutter struct {
	line  string
	words []string
	where int
	from  int    // where the piece begins that is not taken yet
	text  []byte // what was taken of a quoted word
	high  byte   // the first digit of a byte
}

// Words takes a line apart.
func Words(line string) ([]string, api.Errno) {
	if len(line) > api.MaxText {
		return nil, api.ErrText
	}
	c := cutter{line: line}
	for place, r := range line {
		if r == '#' && c.mayEnd() {
			return c.words, api.OK
		}
		if !c.take(place, r) {
			return nil, api.ErrArgs
		}
	}
	if c.where == inWord {
		c.endWord(len(line))
	}
	if !c.mayEnd() {
		return nil, api.ErrArgs
	}
	return c.words, api.OK
}

// mayEnd tells whether all words that were begun have ended.
func (c *cutter) mayEnd() bool { return c.where == between || c.where == behindQuotes }

// take takes the rune at a place; false: it must not stand there.
func (c *cutter) take(place int, r rune) bool {
	switch c.where {
	case between:
		c.begin(place, r)
	case inWord:
		return c.inWord(place, r)
	case inQuotes:
		c.inQuotes(place, r)
	case behindStroke:
		return c.behindStroke(place, r)
	case atHigh:
		return c.atHigh(r)
	case atLow:
		return c.atLow(place, r)
	case behindQuotes:
		c.where = between
		return isBlank(r)
	}
	return true
}

func isBlank(r rune) bool { return r == ' ' || r == '\t' || r == '\r' }

// begin is a rune where a word could begin.
func (c *cutter) begin(place int, r rune) {
	switch {
	case isBlank(r):
	case r == '"':
		c.where, c.from, c.text = inQuotes, place+1, nil
	default:
		c.where, c.from = inWord, place
	}
}

func (c *cutter) inWord(place int, r rune) bool {
	if isBlank(r) {
		c.endWord(place)
	}
	return r != '"'
}

// endWord ends a word without quotes ahead of a place.
func (c *cutter) endWord(place int) {
	c.words = append(c.words, strings.Clone(c.line[c.from:place]))
	c.where = between
}

func (c *cutter) inQuotes(place int, r rune) {
	if r != '"' && r != '\\' {
		return
	}
	c.text = append(c.text, c.line[c.from:place]...)
	if r == '\\' {
		c.where = behindStroke
		return
	}
	c.words = append(c.words, string(c.text))
	c.where = behindQuotes
}

func (c *cutter) behindStroke(place int, r rune) bool {
	switch r {
	case '\\', '"':
		return c.stands(byte(r), place)
	case 'n':
		return c.stands('\n', place)
	case 't':
		return c.stands('\t', place)
	case 'x':
		c.where = atHigh
		return true
	}
	return false
}

// stands takes the byte that a stroke stands for, whose last rune is at a place. (It may stand there, always.)
func (c *cutter) stands(b byte, place int) bool {
	c.text = append(c.text, b)
	c.where, c.from = inQuotes, place+1
	return true
}

func (c *cutter) atHigh(r rune) bool {
	digit, ok := digitOf(r)
	c.where, c.high = atLow, digit
	return ok
}

func (c *cutter) atLow(place int, r rune) bool {
	digit, ok := digitOf(r)
	return ok && c.stands(c.high<<4|digit, place)
}
