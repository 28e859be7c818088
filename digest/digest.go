// Package digest: SHA-256, and a check sum: see DOC.md, layer 1.
package digest

import "witness/api"

const blockSize = 64

// Of is the SHA-256 digest of the parts, laid one behind the other.
func Of(parts ...[]byte) api.Sum {
	h := New()
	for _, part := range parts {
		h.Write(part)
	}
	return h.Sum()
}

// Hash takes a text piece by piece.
type Hash struct {
	state [numState]uint32
	rest  [blockSize]byte // its first size modulo blockSize bytes wait for their block to be full
	size  uint64
}

// New is a hash of nothing yet.
func New() *Hash {
	h := &Hash{}
	h.Reset()
	return h
}

// Write takes the next piece.
func (h *Hash) Write(b []byte) {
	waiting := h.waiting()
	h.size += uint64(len(b))
	if waiting > 0 {
		n := copy(h.rest[waiting:], b)
		if waiting+n < blockSize {
			return
		}
		h.state = behindBlock(h.state, h.rest[:])
		b = b[n:]
	}
	for len(b) >= blockSize {
		h.state = behindBlock(h.state, b)
		b = b[blockSize:]
	}
	copy(h.rest[:], b)
}

// Sum is the digest of all that was written; one may go on.
func (h *Hash) Sum() api.Sum {
	end := *h // the padding must not be seen by who goes on writing
	end.pad()
	var s api.Sum
	for i, word := range end.state {
		s[4*i] = byte(word >> 24)
		s[4*i+1] = byte(word >> 16)
		s[4*i+2] = byte(word >> 8)
		s[4*i+3] = byte(word)
	}
	return s
}

// Size is how many bytes were written.
func (h *Hash) Size() uint64 { return h.size }

// Fork is a hash that has taken the same, and goes on by itself.
func (h *Hash) Fork() *Hash {
	f := *h
	return &f
}

// Reset forgets all that was written.
func (h *Hash) Reset() {
	*h = Hash{}
	for i := range h.state {
		h.state[i] = roots[i]
	}
}

func (h *Hash) waiting() int { return int(h.size % blockSize) }

// pad lays the byte 80, the zeros and the number of bits behind the text, so that no block is left half full.
func (h *Hash) pad() {
	const ahead = blockSize - 8 // where the last block has room for the number of bits
	zeros := (ahead - 1 - h.waiting() + blockSize) % blockSize
	count := h.size << 3
	var padding [blockSize + 8]byte
	padding[0] = 0x80
	for i := range 8 {
		padding[1+zeros+i] = byte(count >> (56 - 8*i))
	}
	h.Write(padding[:1+zeros+8])
}
