package surd

import "chiti/api"

// valid looks at the cheap conditions first; the later ones rely on them.
func valid(x api.Number) bool {
	return all(
		func() bool { return within(x.Den, 1, api.MaxDen) },
		func() bool { return len(x.Terms) <= api.MaxTerms },
		func() bool { return every(isTerm, x.Terms...) },
		func() bool { return ascending(x.Terms...) },
		func() bool { return divisor(x.Den, x.Terms...) == 1 },
	)
}

func all(conditions ...func() bool) bool {
	for _, holds := range conditions {
		if !holds() {
			return false
		}
	}
	return true
}

func every(holds func(api.Term) bool, terms ...api.Term) bool {
	for _, t := range terms {
		if !holds(t) {
			return false
		}
	}
	return true
}

func within(n, low, high int) bool { return low <= n && n <= high }

func isPart(t api.Term) bool {
	return within(t.Coef, -api.MaxCoef, api.MaxCoef) && within(t.Root, 0, api.MaxRoot)
}

func isTerm(t api.Term) bool {
	if !isPart(t) || t.Coef == 0 || t.Root == 0 {
		return false
	}
	square, _ := split(t.Root)
	return square == 1
}

func ascending(terms ...api.Term) bool {
	for i := 1; i < len(terms); i++ {
		if terms[i-1].Root >= terms[i].Root {
			return false
		}
	}
	return true
}

// divisor returns the greatest number that divides a denominator and all coefficients.
func divisor(den int, terms ...api.Term) int {
	g := gcd(den, 0)
	for _, t := range terms {
		g = gcd(g, t.Coef)
	}
	return g
}
