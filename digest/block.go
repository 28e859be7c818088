package digest

import "math/bits"

func turned(word uint32, n int) uint32 { return bits.RotateLeft32(word, -n) }

// schedule is the words W0 .. W63 of the block that b begins with.
func schedule(b []byte) [numRounds]uint32 {
	var w [numRounds]uint32
	b = b[:blockSize]
	for t := range 16 {
		w[t] = uint32(b[4*t])<<24 | uint32(b[4*t+1])<<16 | uint32(b[4*t+2])<<8 | uint32(b[4*t+3])
	}
	for t := 16; t < numRounds; t++ {
		far, near := w[t-15], w[t-2]
		s0 := turned(far, 7) ^ turned(far, 18) ^ far>>3
		s1 := turned(near, 17) ^ turned(near, 19) ^ near>>10
		w[t] = w[t-16] + s0 + w[t-7] + s1
	}
	return w
}

// behindBlock is the state behind the block that block begins with, if state is the one ahead of it.
func behindBlock(state [numState]uint32, block []byte) [numState]uint32 {
	w := schedule(block)
	a, b, c, d := state[0], state[1], state[2], state[3]
	e, f, g, h := state[4], state[5], state[6], state[7]
	for t := range numRounds {
		s1 := turned(e, 6) ^ turned(e, 11) ^ turned(e, 25)
		choice := (e & f) ^ (^e & g)
		x := h + s1 + choice + roots[numState+t] + w[t]
		s0 := turned(a, 2) ^ turned(a, 13) ^ turned(a, 22)
		most := (a & b) ^ (a & c) ^ (b & c)
		y := s0 + most
		h, g, f, e, d, c, b, a = g, f, e, d+x, c, b, a, x+y
	}
	return [numState]uint32{
		state[0] + a, state[1] + b, state[2] + c, state[3] + d,
		state[4] + e, state[5] + f, state[6] + g, state[7] + h,
	}
}
