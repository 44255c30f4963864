package area

import (
	"slices"

	"chiti/api"
	"chiti/surd"
)

// step is a step of a computation: what becomes of a number.
type step func(x api.Number) (api.Number, api.Errno)

// computed carries out steps, each on what the one before it made, up to the first error.
func computed(x api.Number, steps ...step) (api.Number, api.Errno) {
	for _, next := range steps {
		y, e := next(x)
		if e != api.OK {
			return api.Number{}, e
		}
		x = y
	}
	return x, api.OK
}

func plus(y api.Number) step {
	return func(x api.Number) (api.Number, api.Errno) { return surd.Add(x, y) }
}

func less(y api.Number) step {
	return func(x api.Number) (api.Number, api.Errno) { return surd.Sub(x, y) }
}

func times(y api.Number) step {
	return func(x api.Number) (api.Number, api.Errno) { return surd.Mul(x, y) }
}

func over(y api.Number) step {
	return func(x api.Number) (api.Number, api.Errno) { return surd.Quo(x, y) }
}

// overSum divides by the sum of two numbers, which is computed no sooner.
func overSum(y, z api.Number) step {
	return func(x api.Number) (api.Number, api.Errno) {
		total, e := surd.Add(y, z)
		if e != api.OK {
			return api.Number{}, e
		}
		return surd.Quo(x, total)
	}
}

func unchanged(x api.Number) (api.Number, api.Errno) { return x, api.OK }

func withoutSign(x api.Number) (api.Number, api.Errno) {
	if sign, _ := surd.Sign(x); sign < 0 {
		return surd.Sub(whole(0), x)
	}
	return x, api.OK
}

// scaled multiplies numbers by f, one after another.
func scaled(f api.Number, numbers ...api.Number) ([]api.Number, api.Errno) {
	var l []api.Number
	for _, x := range numbers {
		y, e := surd.Mul(x, f)
		if e != api.OK {
			return nil, e
		}
		l = append(l, y)
	}
	return l, api.OK
}

// fraction returns the number num / den, for small ones.
func fraction(num, den int) api.Number {
	x, _ := surd.Make(den, []api.Term{{Coef: num, Root: 1}})
	return x
}

func whole(n int) api.Number { return fraction(n, 1) }

func copied(x api.Number) api.Number {
	return api.Number{Den: x.Den, Terms: slices.Clone(x.Terms)}
}

func isNumber(x api.Number) bool { return surd.Check(x) == api.OK }

// isAbove0 reports whether a number is valid and above 0.
func isAbove0(x api.Number) bool {
	sign, e := surd.Sign(x)
	return e == api.OK && sign > 0
}

// isNone reports whether a number is left out.
func isNone(x api.Number) bool { return x.Den == 0 && len(x.Terms) == 0 }

func isPoint(p api.Point) bool { return isNumber(p.X) && isNumber(p.Y) }

func within(n, low, high int) bool { return low <= n && n <= high }

func every[T any](holds func(T) bool, items ...T) bool {
	return !slices.ContainsFunc(items, func(item T) bool { return !holds(item) })
}
