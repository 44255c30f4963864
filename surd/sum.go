package surd

import (
	"slices"

	"chiti/api"
)

// sum is a sum of parts: their coefficients, which are not 0, by their roots, which have no squares.
type sum map[int]int

// add adds so many times the terms.
func (p sum) add(times int, terms ...api.Term) {
	for _, t := range terms {
		p[t.Root] += times * t.Coef
		if p[t.Root] == 0 {
			delete(p, t.Root)
		}
	}
}

// combined returns x + sign * y, times both denominators.
func combined(x, y api.Number, sign int) sum {
	p := sum{}
	p.add(y.Den, x.Terms...)
	p.add(sign*x.Den, y.Terms...)
	return p
}

// product returns so many times the product of two sums of terms.
func product(times int, first, second []api.Term) sum {
	p := sum{}
	for _, t := range first {
		for _, u := range second {
			// Roots without squares have only their common divisor twice in their product.
			g := gcd(t.Root, u.Root)
			p.add(times, api.Term{Coef: t.Coef * u.Coef * g, Root: (t.Root / g) * (u.Root / g)})
		}
	}
	return p
}

// conjugate returns by what one or two terms are to be multiplied, so that no root is left, and the whole number that is the product then.
func conjugate(terms ...api.Term) (opposite []api.Term, norm int) {
	for i, t := range terms {
		square := t.Coef * t.Coef * t.Root
		if i > 0 {
			t.Coef, square = -t.Coef, -square
		}
		opposite = append(opposite, t)
		norm += square
	}
	return opposite, norm
}

// binomial returns the coefficient of the root 1 and the term with another root, if there are no more terms than these.
func binomial(terms ...api.Term) (a int, rest api.Term, ok bool) {
	if len(terms) > 0 && terms[0].Root == 1 {
		a, terms = terms[0].Coef, terms[1:]
	}
	if len(terms) > 0 {
		rest, terms = terms[0], terms[1:]
	}
	return a, rest, len(terms) == 0
}

// fractionRoot returns the square root of num / den as a term and its denominator.
func fractionRoot(num, den int) (api.Term, int) {
	g := gcd(num, den)
	above, aboveRest := split(num / g)
	below, belowRest := split(den / g)
	return api.Term{Coef: above, Root: aboveRest * belowRest}, below * belowRest
}

// finish returns the number that is a sum divided by den, or the error of a result that is none.
func finish(den int, p sum) (api.Number, api.Errno) {
	x := reduced(den, p)
	if len(x.Terms) > api.MaxTerms {
		return api.Number{}, api.ErrFull
	}
	if x.Den > api.MaxDen || !every(isPart, x.Terms...) {
		return api.Number{}, api.ErrOver
	}
	return x, api.OK
}

// reduced returns a sum divided by den in lowest terms, of any size.
func reduced(den int, p sum) api.Number {
	x := api.Number{Den: den}
	for root, coef := range p {
		x.Terms = append(x.Terms, api.Term{Coef: coef, Root: root})
	}
	slices.SortFunc(x.Terms, func(t, u api.Term) int { return t.Root - u.Root })
	g := divisor(den, x.Terms...)
	if den < 0 {
		g = -g
	}
	x.Den /= g
	for i := range x.Terms {
		x.Terms[i].Coef /= g
	}
	return x
}
