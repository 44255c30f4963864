package area

import (
	"iter"

	"chiti/api"
	"chiti/surd"
)

// checkGrowth returns the error of an altar that grows, and of years.
func checkGrowth(first, by api.Number, years ...int) api.Errno {
	isYear := func(n int) bool { return within(n, 0, api.MaxYears) }
	if !every(isNumber, first, by) {
		return api.ErrArg
	}
	if sign, _ := surd.Sign(by); sign < 0 || !isAbove0(first) || !every(isYear, years...) {
		return api.ErrRange
	}
	return api.OK
}

func grown(first, by api.Number, year int) (api.Number, api.Errno) {
	return computed(by, times(whole(year)), plus(first))
}

// sides yields each point of a plan with the next one.
func sides(l ...api.Point) iter.Seq2[api.Point, api.Point] {
	return func(yield func(p, q api.Point) bool) {
		for i, p := range l {
			if !yield(p, l[(i+1)%len(l)]) {
				return
			}
		}
	}
}

// plusCross adds twice the signed area between a side and the point (0, 0).
func plusCross(p, q api.Point) step {
	return func(total api.Number) (api.Number, api.Errno) {
		ahead, e := surd.Mul(p.X, q.Y)
		if e != api.OK {
			return api.Number{}, e
		}
		back, e := surd.Mul(q.X, p.Y)
		if e != api.OK {
			return api.Number{}, e
		}
		return computed(ahead, less(back), plus(total))
	}
}
