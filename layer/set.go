package layer

import (
	"math/bits"

	"chiti/api"
)

// quarters is a set of quarters of a ground, by their numbers in it.
type quarters uint64

const (
	wordBits = 64
	// Each quarter of a ground has three edges.
	edgeWords = 3 * api.MaxTiled / wordBits
)

// edges is a set of edges of the quarters of a ground, by the numbers that a board gives them.
type edges [edgeWords]uint64

// least returns the least number that is in the set, or MaxTiled if it is empty.
func (s quarters) least() int { return bits.TrailingZeros64(uint64(s)) }

// free returns the least number that is not in the set.
func (s quarters) free() int { return (^s).least() }

func (s quarters) has(number int) bool { return s>>number&1 == 1 }

// numbers yields what is in the set, in ascending order.
func (s quarters) numbers(yield func(number int) bool) {
	for s != 0 && yield(s.least()) {
		s &= s - 1
	}
}

func (s *edges) add(number int) { s[number/wordBits] |= 1 << (number % wordBits) }

func (s edges) or(other edges) edges {
	for i := range s {
		s[i] |= other[i]
	}
	return s
}

func (s edges) and(other edges) edges {
	for i := range s {
		s[i] &= other[i]
	}
	return s
}

func (s edges) isEmpty() bool { return s == edges{} }
