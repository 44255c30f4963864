package surd

import (
	"math/big"
	"slices"
	"testing"

	"chiti/api"
)

const precision = 1000 // bits of the approximations that results are held against

// num returns the number of a text.
func num(t *testing.T, s string) api.Number {
	t.Helper()
	x, e := Parse(s)
	if e != api.OK {
		t.Fatalf("Parse(%q): error %d", s, e)
	}
	return x
}

func nums(t *testing.T, texts ...string) []api.Number {
	t.Helper()
	var l []api.Number
	for _, s := range texts {
		l = append(l, num(t, s))
	}
	return l
}

func same(x, y api.Number) bool { return x.Den == y.Den && slices.Equal(x.Terms, y.Terms) }

func isZero(x api.Number) bool { return x.Den == 0 && len(x.Terms) == 0 }

func terms(pairs ...int) []api.Term {
	var l []api.Term
	for i := 0; i < len(pairs); i += 2 {
		l = append(l, api.Term{Coef: pairs[i], Root: pairs[i+1]})
	}
	return l
}

// approximate returns a number's value, much more exactly than two numbers can be near to each other in these tests.
func approximate(x api.Number) *big.Float {
	total := new(big.Float).SetPrec(precision)
	for _, u := range x.Terms {
		root := new(big.Float).SetPrec(precision).SetInt64(int64(u.Root))
		root.Sqrt(root)
		total.Add(total, root.Mul(root, new(big.Float).SetInt64(int64(u.Coef))))
	}
	return total.Quo(total, new(big.Float).SetPrec(precision).SetInt64(int64(x.Den)))
}

// near reports whether a and b agree but for the rounding of approximations.
func near(a, b *big.Float) bool {
	d := new(big.Float).SetPrec(precision).Sub(a, b)
	return d.Sign() == 0 || d.MantExp(nil) < -precision/2
}

// pseudo returns a function that yields integers from 0 to below n, the same ones in every run.
func pseudo() func(n int) int {
	state := uint64(88172645463325252)
	return func(n int) int {
		state ^= state << 13
		state ^= state >> 7
		state ^= state << 17
		return int(state % uint64(n))
	}
}

// generated returns numbers with up to most terms and coefficients up to size.
func generated(count, most, size int) []api.Number {
	next := pseudo()
	var l []api.Number
	for len(l) < count {
		var parts []api.Term
		for range next(most + 1) {
			parts = append(parts, api.Term{Coef: next(2*size+1) - size, Root: next(30) + 1})
		}
		if x, e := Make(next(size)+1, parts); e == api.OK {
			l = append(l, x)
		}
	}
	return l
}
