// Package surd computes exactly with sums of fractions times square roots of whole numbers (chapter 1).
package surd

import "chiti/api"

// Check returns OK if a number is valid.
func Check(x api.Number) api.Errno {
	if !valid(x) {
		return api.ErrArg
	}
	return api.OK
}

// Make returns the number that is a sum of parts, divided by den.
func Make(den int, parts []api.Term) (api.Number, api.Errno) {
	switch {
	case len(parts) > api.MaxParts:
		return api.Number{}, api.ErrLong
	case !within(den, 1, api.MaxDen) || !every(isPart, parts...):
		return api.Number{}, api.ErrArg
	}
	total := sum{}
	for _, t := range parts {
		square, root := split(t.Root)
		total.add(square, api.Term{Coef: t.Coef, Root: root})
	}
	return finish(den, total)
}

// Add, Sub, Mul and Quo return the sum, the difference, the product and the quotient of two numbers.
func Add(x, y api.Number) (api.Number, api.Errno) {
	if !valid(x) || !valid(y) {
		return api.Number{}, api.ErrArg
	}
	return finish(x.Den*y.Den, combined(x, y, 1))
}

func Sub(x, y api.Number) (api.Number, api.Errno) {
	if !valid(x) || !valid(y) {
		return api.Number{}, api.ErrArg
	}
	return finish(x.Den*y.Den, combined(x, y, -1))
}

func Mul(x, y api.Number) (api.Number, api.Errno) {
	if !valid(x) || !valid(y) {
		return api.Number{}, api.ErrArg
	}
	return finish(x.Den*y.Den, product(1, x.Terms, y.Terms))
}

func Quo(x, y api.Number) (api.Number, api.Errno) {
	switch {
	case !valid(x) || !valid(y):
		return api.Number{}, api.ErrArg
	case len(y.Terms) == 0:
		return api.Number{}, api.ErrNone
	case len(y.Terms) > 2:
		return api.Number{}, api.ErrSurd
	}
	opposite, norm := conjugate(y.Terms...)
	return finish(x.Den*norm, product(y.Den, x.Terms, opposite))
}

// Root returns the square root of a number.
func Root(x api.Number) (api.Number, api.Errno) {
	if !valid(x) {
		return api.Number{}, api.ErrArg
	}
	if signOf(x) < 0 {
		return api.Number{}, api.ErrRange
	}
	a, rest, ok := binomial(x.Terms...)
	if !ok {
		return api.Number{}, api.ErrSurd
	}
	w, ok := exactRoot(a*a - rest.Coef*rest.Coef*rest.Root)
	if !ok {
		return api.Number{}, api.ErrSurd
	}
	half := func(n int) (api.Term, int) { return fractionRoot(n, 2*x.Den) }
	first, firstDen := half(a + w)
	second, secondDen := half(a - w)
	if rest.Coef < 0 {
		second.Coef = -second.Coef
	}
	total := sum{}
	total.add(secondDen, first)
	total.add(firstDen, second)
	return finish(firstDen*secondDen, total)
}

// Sign returns -1, 0 or 1 for a number below, equal to or above 0.
func Sign(x api.Number) (int, api.Errno) {
	if !valid(x) {
		return 0, api.ErrArg
	}
	return signOf(x), api.OK
}

// Compare returns -1, 0 or 1 if x is less than, equal to or greater than y.
func Compare(x, y api.Number) (int, api.Errno) {
	if !valid(x) || !valid(y) {
		return 0, api.ErrArg
	}
	return combined(x, y, -1).sign(), api.OK
}

// Floor returns the greatest integer that is not above a number.
func Floor(x api.Number) (int, api.Errno) {
	low, _, e := Bounds(x, 1)
	return low, e
}

// Bounds returns the nearest fractions with a denominator on both sides of a number.
func Bounds(x api.Number, den int) (low, high int, e api.Errno) {
	switch {
	case !valid(x):
		return 0, 0, api.ErrArg
	case !within(den, 1, api.MaxFine):
		return 0, 0, api.ErrRange
	}
	if a, rest, ok := binomial(x.Terms...); ok && rest.Coef == 0 {
		return floorQuo(a*den, x.Den), -floorQuo(-a*den, x.Den), api.OK
	}
	low = irrationalFloor(x, den)
	return low, low + 1, api.OK
}

// Format returns the text of a number, and Parse the number of a text.
func Format(x api.Number) (string, api.Errno) {
	if !valid(x) {
		return "", api.ErrArg
	}
	return text(x), api.OK
}

func Parse(s string) (api.Number, api.Errno) {
	if len(s) > api.MaxNumber {
		return api.Number{}, api.ErrLong
	}
	// What is read leniently is a text only if it is written in the same way.
	x := read(s)
	if !valid(x) || text(x) != s {
		return api.Number{}, api.ErrForm
	}
	return x, api.OK
}
