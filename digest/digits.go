package digest

import (
	"math/bits"

	"witness/api"
)

const digits = "0123456789abcdef"

// Hex is a digest's 64 hexadecimal digits.
func Hex(s api.Sum) string {
	var text [2 * len(s)]byte
	for i, b := range s {
		text[2*i] = digits[b>>4]
		text[2*i+1] = digits[b&15]
	}
	return string(text[:])
}

// Parse reads what Hex writes.
func Parse(s string) (api.Sum, api.Errno) {
	var sum api.Sum
	if len(s) != 2*len(sum) {
		return api.Sum{}, api.ErrHex
	}
	for i := range len(s) {
		half, ok := digitOf(s[i])
		if !ok {
			return api.Sum{}, api.ErrHex
		}
		sum[i/2] = sum[i/2]<<4 | half
	}
	return sum, api.OK
}

func digitOf(letter byte) (byte, bool) {
	switch {
	case '0' <= letter && letter <= '9':
		return letter - '0', true
	case 'a' <= letter && letter <= 'f':
		return letter - 'a' + 10, true
	}
	return 0, false
}

// Zeros is how many bits of a digest are 0 ahead of its first 1.
func Zeros(s api.Sum) int {
	zeros := 0
	for _, b := range s {
		zeros += bits.LeadingZeros8(b)
		if b != 0 {
			break
		}
	}
	return zeros
}
