package digest

import "sync"

// castagnoli is the polynomial of CRC-32C, its bits turned round, as the lowest bit of a byte is taken first.
const castagnoli = 0x82f63b78

// checkWords holds nothing ahead of checkOnce: the first one who wants a check sum fills it.
var (
	checkOnce  = sync.Once{}
	checkWords = [256]uint32{}
)

// Check is the check sum (CRC-32C) of the parts, laid one behind the other.
func Check(parts ...[]byte) uint32 {
	var c uint32
	for _, part := range parts {
		c = More(c, part)
	}
	return c
}

// More is the check sum of what has the check sum c, and b behind it.
func More(c uint32, b []byte) uint32 {
	checkOnce.Do(fillCheckWords)
	register := ^c
	for _, next := range b {
		register = register>>8 ^ checkWords[byte(register)^next]
	}
	return ^register
}

func fillCheckWords() {
	for i := range checkWords {
		checkWords[i] = behindByte(uint32(i))
	}
}

// behindByte is the register behind a byte of zero bits.
func behindByte(register uint32) uint32 {
	for range 8 {
		lowest := register & 1
		register >>= 1
		if lowest == 1 {
			register ^= castagnoli
		}
	}
	return register
}
