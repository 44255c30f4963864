package peg

import (
	"iter"
	"slices"

	"chiti/api"
	"chiti/surd"
)

// reckoner computes with numbers and points. Its first error stays, and nothing is computed behind it: all results are zero then.
type reckoner struct {
	e api.Errno
}

// result returns what was computed, with the error.
func (r *reckoner) result(x api.Number) (api.Number, api.Errno) {
	if r.e != api.OK {
		return api.Number{}, r.e
	}
	return x, api.OK
}

// refuse makes e the error if the condition holds; there is nothing to look at behind an error.
func (r *reckoner) refuse(e api.Errno, condition func() bool) {
	if r.e == api.OK && condition() {
		r.e = e
	}
}

func (r *reckoner) compute(of func() (api.Number, api.Errno)) (x api.Number) {
	if r.e == api.OK {
		x, r.e = of()
	}
	return x
}

func (r *reckoner) add(x, y api.Number) api.Number {
	return r.compute(func() (api.Number, api.Errno) { return surd.Add(x, y) })
}

func (r *reckoner) sub(x, y api.Number) api.Number {
	return r.compute(func() (api.Number, api.Errno) { return surd.Sub(x, y) })
}

func (r *reckoner) mul(x, y api.Number) api.Number {
	return r.compute(func() (api.Number, api.Errno) { return surd.Mul(x, y) })
}

func (r *reckoner) quo(x, y api.Number) api.Number {
	return r.compute(func() (api.Number, api.Errno) { return surd.Quo(x, y) })
}

func (r *reckoner) root(x api.Number) api.Number {
	return r.compute(func() (api.Number, api.Errno) { return surd.Root(x) })
}

// size returns a number without its sign.
func (r *reckoner) size(x api.Number) api.Number {
	if signOf(x) < 0 {
		return r.sub(fraction(0, 1), x)
	}
	return x
}

func (r *reckoner) plus(p, q api.Point) api.Point {
	return api.Point{X: r.add(p.X, q.X), Y: r.add(p.Y, q.Y)}
}

func (r *reckoner) minus(p, q api.Point) api.Point {
	return api.Point{X: r.sub(p.X, q.X), Y: r.sub(p.Y, q.Y)}
}

func (r *reckoner) times(t api.Number, p api.Point) api.Point {
	return api.Point{X: r.mul(t, p.X), Y: r.mul(t, p.Y)}
}

// turned returns a point that is turned to the left by a right angle.
func (r *reckoner) turned(p api.Point) api.Point {
	return api.Point{X: r.sub(fraction(0, 1), p.Y), Y: p.X}
}

func (r *reckoner) dot(p, q api.Point) api.Number {
	return r.add(r.mul(p.X, q.X), r.mul(p.Y, q.Y))
}

func (r *reckoner) cross(p, q api.Point) api.Number {
	return r.sub(r.mul(p.X, q.Y), r.mul(p.Y, q.X))
}

// square returns the square of the cord from p to q.
func (r *reckoner) square(p, q api.Point) api.Number {
	d := r.minus(q, p)
	return r.dot(d, d)
}

func (r *reckoner) area(corners ...api.Point) api.Number {
	total := fraction(0, 1)
	for p, q := range sides(corners...) {
		total = r.add(total, r.cross(p, q))
	}
	return r.size(r.mul(total, fraction(1, 2)))
}

// sides yields each corner of a polygon with the next one.
func sides(corners ...api.Point) iter.Seq2[api.Point, api.Point] {
	return func(yield func(p, q api.Point) bool) {
		for i, p := range corners {
			if !yield(p, corners[(i+1)%len(corners)]) {
				return
			}
		}
	}
}

// fraction returns the number num / den, for small ones.
func fraction(num, den int) api.Number {
	x, _ := surd.Make(den, []api.Term{{Coef: num, Root: 1}})
	return x
}

func signOf(x api.Number) int {
	sign, _ := surd.Sign(x)
	return sign
}

func isNumber(x api.Number) bool { return surd.Check(x) == api.OK }

func isPoint(p api.Point) bool { return isNumber(p.X) && isNumber(p.Y) }

// same reports whether two numbers are equal: valid ones are so only if they are written alike.
func same(x, y api.Number) bool { return x.Den == y.Den && slices.Equal(x.Terms, y.Terms) }

func samePoint(p, q api.Point) bool { return same(p.X, q.X) && same(p.Y, q.Y) }

func within(n, low, high int) bool { return low <= n && n <= high }

func every[T any](holds func(T) bool, items ...T) bool {
	return !slices.ContainsFunc(items, func(item T) bool { return !holds(item) })
}
