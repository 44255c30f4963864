package surd

import "chiti/api"

// An enclosure is a lower and an upper bound of a number, as multiples of a power of 1/2.
type enclosure [2]natural

const (
	firstDigits = 26 // the most binary digits with which the square of a root up to MaxRoot fits into an integer

	// A sum that is not 0 has at most 8 parts, and up to 128 conjugates but for their signs. The parts are together below 2^42, so all conjugates are, and the product of these is at least 1: the sum is at least 2^(-42*127). Its coefficients are together below 2^37, so 42*127+37 digits tell it from 0, and 26 digits, doubled eight times, are more. What is asked of one number (irrationalFloor) has 16 conjugates below 2^55 and needs fewer.
	refinements = 9
)

// A decision is what is known for certain from the enclosures of the parts above 0 and of those below 0, both told without signs.
type decision func(above, below enclosure, digits int) (int, bool)

// refine encloses a sum more and more closely until a decision is made.
func (p sum) refine(decide decision) int {
	for n := range refinements {
		digits := firstDigits << n
		above, below := p.enclose(digits)
		if result, ok := decide(above, below, digits); ok {
			return result
		}
	}
	return 0
}

// enclose returns bounds, with so many binary digits, of the parts above 0 and of those below 0.
func (p sum) enclose(digits int) (above, below enclosure) {
	for root, coef := range p {
		side := &above
		if coef < 0 {
			side, coef = &below, -coef
		}
		low := rootDigits(root, digits)
		high := low.plus(natural{1})
		for i, bound := range [2]natural{low, high} {
			side[i] = side[i].plus(bound.times(uint64(coef)))
		}
	}
	return above, below
}

// less returns the enclosure of the difference, if it is certain that this is not below 0.
func (a enclosure) less(b enclosure) (enclosure, bool) {
	if a[0].compare(b[1]) < 0 {
		return enclosure{}, false
	}
	return enclosure{a[0].minus(b[1]), a[1].minus(b[0])}, true
}

// rootDigits returns the square root of a number times 2^digits, rounded down.
func rootDigits(n, digits int) natural {
	start := n << (2 * firstDigits)
	whole := wholeRoot(start)
	root := natural{uint64(whole)}
	rest := natural{uint64(start - whole*whole)}.trimmed()
	for range digits - firstDigits {
		// With the next digit 1 the root's square is greater by 4 * root + 1.
		rest = rest.doubled(2)
		root = root.doubled(1)
		if more := root.doubled(1).plus(natural{1}); rest.compare(more) >= 0 {
			rest = rest.minus(more)
			root = root.plus(natural{1})
		}
	}
	return root
}

func signOf(x api.Number) int {
	p := sum{}
	p.add(1, x.Terms...)
	return p.sign()
}

func (p sum) sign() int {
	if len(p) == 0 {
		return 0
	}
	return p.refine(func(above, below enclosure, _ int) (int, bool) {
		if _, ok := above.less(below); ok {
			return 1, true
		}
		_, ok := below.less(above)
		return -1, ok
	})
}

// irrationalFloor returns the greatest integer that is not above x * den, for an x that is no fraction.
func irrationalFloor(x api.Number, den int) int {
	p := sum{}
	p.add(den, x.Terms...)
	return p.refine(func(above, below enclosure, digits int) (int, bool) {
		whole := func(size enclosure) (int, bool) {
			low := size[0].over(uint64(x.Den)).halved(digits)
			high := size[1].over(uint64(x.Den)).halved(digits)
			return int(low.word(0)), low.compare(high) == 0
		}
		if size, ok := above.less(below); ok {
			return whole(size)
		}
		size, ok := below.less(above)
		if !ok {
			return 0, false
		}
		n, ok := whole(size)
		return -n - 1, ok
	})
}
