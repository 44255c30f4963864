package surd

import (
	"cmp"
	"math/bits"
)

// natural is an integer of any size from 0 on: its words, the lowest one first, without a 0 as the highest one.
type natural []uint64

const wordBits = 64

func (a natural) trimmed() natural {
	for len(a) > 0 && a[len(a)-1] == 0 {
		a = a[:len(a)-1]
	}
	return a
}

func (a natural) compare(b natural) int {
	if len(a) != len(b) {
		return cmp.Compare(len(a), len(b))
	}
	for i := len(a) - 1; i >= 0; i-- {
		if a[i] != b[i] {
			return cmp.Compare(a[i], b[i])
		}
	}
	return 0
}

func (a natural) plus(b natural) natural {
	if len(a) < len(b) {
		a, b = b, a
	}
	sum := make(natural, len(a)+1)
	var carry uint64
	for i := range a {
		sum[i], carry = bits.Add64(a[i], b.word(i), carry)
	}
	sum[len(a)] = carry
	return sum.trimmed()
}

// minus returns a - b, for b not above a.
func (a natural) minus(b natural) natural {
	rest := make(natural, len(a))
	var borrow uint64
	for i := range a {
		rest[i], borrow = bits.Sub64(a[i], b.word(i), borrow)
	}
	return rest.trimmed()
}

func (a natural) times(n uint64) natural {
	product := make(natural, len(a)+1)
	var carry uint64
	for i, w := range a {
		high, low := bits.Mul64(w, n)
		var more uint64
		product[i], more = bits.Add64(low, carry, 0)
		carry = high + more
	}
	product[len(a)] = carry
	return product.trimmed()
}

// over returns a / n, rounded down, for n above 0.
func (a natural) over(n uint64) natural {
	quotient := make(natural, len(a))
	var rest uint64
	for i := len(a) - 1; i >= 0; i-- {
		quotient[i], rest = bits.Div64(rest, a[i], n)
	}
	return quotient.trimmed()
}

// doubled returns a * 2^n.
func (a natural) doubled(n int) natural {
	words, rest := n/wordBits, n%wordBits
	result := make(natural, len(a)+words+1)
	for i, w := range a {
		result[i+words] |= w << rest
		result[i+words+1] |= w >> (wordBits - rest)
	}
	return result.trimmed()
}

// halved returns a / 2^n, rounded down.
func (a natural) halved(n int) natural {
	words, rest := n/wordBits, n%wordBits
	if len(a) <= words {
		return nil
	}
	result := make(natural, len(a)-words)
	for i := range result {
		result[i] = a[i+words]>>rest | a.word(i+words+1)<<(wordBits-rest)
	}
	return result.trimmed()
}

func (a natural) word(i int) uint64 {
	if i >= len(a) {
		return 0
	}
	return a[i]
}
