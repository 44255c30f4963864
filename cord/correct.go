package cord

import (
	"slices"

	"chiti/api"
	"chiti/surd"
)

// correction returns the d, below 0 or above it, for which 1 / d is to be added to the fraction x towards the square root of n.
func correction(x api.Number, n int) (d int, e api.Errno) {
	num, _ := numerator(x)
	// (n - x * x) / (2 * x), written out, because as a number it can be too great where 1 / d is not.
	above, below := n*x.Den*x.Den-num*num, 2*num*x.Den
	switch {
	case num <= 0:
		return 0, api.ErrRange
	case above == 0:
		return 0, api.ErrState
	case below%above != 0 || max(above, -above) == below:
		return 0, api.ErrNone
	}
	return below / above, api.OK
}

// marksAfter returns the marks of the piece 1 / d behind pieces: those of the last one and another one, if d is their product.
func marksAfter(d int, pieces ...api.Piece) []int {
	if len(pieces) > 0 {
		last := pieces[len(pieces)-1].Marks
		before := product(last...)
		if d%before == 0 && isMark(d/before) {
			return append(slices.Clone(last), d/before)
		}
	}
	return []int{d}
}

// greatestPart returns the mark of the greatest piece that is not above a fraction from 0 to below 1, and what is left behind it.
func greatestPart(x api.Number) (mark int, left api.Number, ok bool) {
	num, _ := numerator(x)
	if num == 0 {
		return 0, api.Number{}, false
	}
	mark = (x.Den + num - 1) / num
	if mark > api.MaxMark {
		return 0, api.Number{}, false
	}
	left, e := surd.Sub(x, fraction(1, mark))
	return mark, left, e == api.OK
}
