package cord

import (
	"chiti/api"
	"chiti/surd"
)

// pair is a low and a high number.
type pair [2]api.Number

// step is an operation on both numbers of a pair, and the second arguments of both.
type step struct {
	of   func(x, y api.Number) (api.Number, api.Errno)
	with pair
}

// excess returns by how many parts of den the square of x is more than 1 after some steps.
func excess(x api.Number, pi api.Between, den int, steps ...step) (low, high int, e api.Errno) {
	if !isNumber(x) || !isBetween(pi) {
		return 0, 0, api.ErrArg
	}
	if order, _ := surd.Sign(x); order <= 0 {
		return 0, 0, api.ErrRange
	}
	square, e := surd.Mul(x, x)
	if e != api.OK {
		return 0, 0, e
	}
	one := fraction(1, 1)
	steps = append(steps, step{surd.Sub, pair{one, one}})
	more, e := pair{square, square}.through(steps...)
	if e != api.OK {
		return 0, 0, e
	}
	return more.bounds(den)
}

func isBetween(pi api.Between) bool {
	if !every(isNumber, pi.Low, pi.High) {
		return false
	}
	above, _ := surd.Sign(pi.Low)
	order, _ := surd.Compare(pi.Low, pi.High)
	return above > 0 && order <= 0
}

// through returns what becomes of a pair by steps; each one is done to the low number and then to the high one.
func (p pair) through(steps ...step) (pair, api.Errno) {
	for _, s := range steps {
		for i := range p {
			x, e := s.of(p[i], s.with[i])
			if e != api.OK {
				return pair{}, e
			}
			p[i] = x
		}
	}
	return p, api.OK
}

// bounds returns the lower bound of the low number and the upper bound of the high one.
func (p pair) bounds(den int) (low, high int, e api.Errno) {
	low, _, e = surd.Bounds(p[0], den)
	if e != api.OK {
		return 0, 0, e
	}
	_, high, e = surd.Bounds(p[1], den)
	return low, high, e
}

func isSpread(a [2]int) bool {
	return a[0] <= a[1] && within(a[0], -api.MaxOff, api.MaxOff) && within(a[1], -api.MaxOff, api.MaxOff)
}

// sizes returns the least and the greatest of the numbers between two, without their signs.
func sizes(a [2]int) [2]int {
	return [2]int{max(a[0], -a[1], 0), max(-a[0], a[1])}
}
