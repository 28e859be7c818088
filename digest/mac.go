package digest

import "witness/api"

// Mac is the keyed digest (HMAC) of a text.
func Mac(key, text []byte) api.Sum {
	filled := filledKey(key)
	var inner, outer [blockSize]byte
	for i, b := range filled {
		inner[i] = b ^ 0x36
		outer[i] = b ^ 0x5c
	}
	within := Of(inner[:], text)
	return Of(outer[:], within[:])
}

// filledKey is a block that begins with the key, or with its digest if the key is longer than a block.
func filledKey(key []byte) [blockSize]byte {
	var filled [blockSize]byte
	if len(key) > blockSize {
		short := Of(key)
		copy(filled[:], short[:])
	} else {
		copy(filled[:], key)
	}
	return filled
}
