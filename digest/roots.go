package digest

import "math/bits"

const (
	numState  = 8
	numRounds = 64
)

// roots: first the words H0 .. H7 with which the state begins, behind them the round constants K0 .. K63.
var roots = rootWords()

func rootWords() [numState + numRounds]uint32 {
	primes := [numRounds]uint64{
		2, 3, 5, 7, 11, 13, 17, 19, 23, 29, 31, 37, 41, 43, 47, 53,
		59, 61, 67, 71, 73, 79, 83, 89, 97, 101, 103, 107, 109, 113, 127, 131,
		137, 139, 149, 151, 157, 163, 167, 173, 179, 181, 191, 193, 197, 199, 211, 223,
		227, 229, 233, 239, 241, 251, 257, 263, 269, 271, 277, 281, 283, 293, 307, 311,
	}
	var words [numState + numRounds]uint32
	for i := range numState {
		words[i] = rootPlaces(primes[i], 2)
	}
	for i := range numRounds {
		words[numState+i] = rootPlaces(primes[i], 3)
	}
	return words
}

// rootPlaces is the first 32 binary places behind the point of the square root (degree 2) or the cube root (degree 3) of n, below 2^9.
func rootPlaces(n uint64, degree int) uint32 {
	const most = 37 // bits: 32 places, and a root below 2^5 ahead of them
	// The greatest root whose power is at most n times 2^(32*degree) has just those places as its lowest 32 bits.
	bound := wide{high: n << (32*degree - 64)}
	var root uint64
	for bit := most - 1; bit >= 0; bit-- {
		larger := root | 1<<bit
		if !bound.less(power(larger, degree)) {
			root = larger
		}
	}
	return uint32(root)
}

// wide is a number of 128 bits: a cube of 37 bits is too long for one word.
type wide struct{ high, low uint64 }

func (w wide) less(other wide) bool {
	return w.high < other.high || w.high == other.high && w.low < other.low
}

func (w wide) times(n uint64) wide {
	carry, low := bits.Mul64(w.low, n)
	return wide{w.high*n + carry, low}
}

func power(n uint64, degree int) wide {
	w := wide{low: 1}
	for range degree {
		w = w.times(n)
	}
	return w
}
