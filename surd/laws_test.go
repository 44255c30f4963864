package surd

import (
	"testing"

	"chiti/api"
)

// lawful returns numbers of all forms, small enough that few results are refused.
func lawful(t *testing.T) []api.Number {
	t.Helper()
	l := nums(t, "0", "1", "-1", "2", "1/2", "-7/3", "22/7", "r2", "-r2", "r2/2", "3r3", "-r6/5", "1+r2", "1-r2", "(1+r5)/2", "(577-408r2)/408", "r2+r3", "-r2+r3", "(3-2r2+r6)/4", "1+r2+r3+r6", "-5+r10-r15")
	return append(l, generated(12, 2, 9)...)
}

type result struct {
	x api.Number
	e api.Errno
}

func add(x, y api.Number) result { z, e := Add(x, y); return result{z, e} }
func sub(x, y api.Number) result { z, e := Sub(x, y); return result{z, e} }
func mul(x, y api.Number) result { z, e := Mul(x, y); return result{z, e} }
func quo(x, y api.Number) result { z, e := Quo(x, y); return result{z, e} }

// then goes on with a result, if there is one.
func (r result) then(f func(x, y api.Number) result, y result) result {
	if r.e != api.OK {
		return r
	}
	if y.e != api.OK {
		return y
	}
	return f(r.x, y.x)
}

// agree counts those pairs of results of which none is refused, and wants them to be the same.
func agree(t *testing.T, count *int, what string, r, s result) {
	t.Helper()
	if r.e != api.OK || s.e != api.OK {
		return
	}
	*count++
	if !same(r.x, s.x) {
		t.Error(what, r.x, s.x)
	}
}

// P1.7: order and grouping of sums and products, and products of sums.
func TestArithmeticLaws(t *testing.T) {
	numbers := lawful(t)
	count := 0
	for _, x := range numbers {
		for _, y := range numbers {
			if add(x, y).e != add(y, x).e || mul(x, y).e != mul(y, x).e {
				t.Error("errors depend on the order", x, y)
			}
			agree(t, &count, "x + y", add(x, y), add(y, x))
			agree(t, &count, "x * y", mul(x, y), mul(y, x))
			agree(t, &count, "x + y - y", add(x, y).then(sub, result{x: y}), result{x: x})
			agree(t, &count, "x - y + y", sub(x, y).then(add, result{x: y}), result{x: x})
			agree(t, &count, "x / y * y", quo(x, y).then(mul, result{x: y}), result{x: x})
			for _, z := range numbers {
				third := result{x: z}
				agree(t, &count, "x + y + z", add(x, y).then(add, third), result{x: x}.then(add, add(y, z)))
				agree(t, &count, "x * y * z", mul(x, y).then(mul, third), result{x: x}.then(mul, mul(y, z)))
				agree(t, &count, "(x + y) * z", add(x, y).then(mul, third), mul(x, z).then(add, mul(y, z)))
			}
		}
	}
	if count < 10000 {
		t.Error("only so many laws were tried:", count)
	}
}

// P1.8: the square of a root is the number, and the root of a square the number without its sign.
func TestRootLaws(t *testing.T) {
	roots, squares := 0, 0
	for _, x := range append(lawful(t), generated(400, 2, 40)...) {
		if r, e := Root(x); e == api.OK {
			roots++
			agree(t, &roots, "the square of a root", mul(r, r), result{x: x})
			if n, _ := Sign(r); n < 0 {
				t.Error("a root below 0", x, r)
			}
		}
		square := mul(x, x)
		if square.e != api.OK || len(x.Terms) > 2 {
			continue
		}
		want := result{x: x}
		if n, _ := Sign(x); n < 0 {
			want = sub(api.Number{Den: 1}, x)
		}
		r, e := Root(square.x)
		if e != api.OK {
			t.Error("a square without a root", x, e)
		}
		agree(t, &squares, "the root of a square", result{r, e}, want)
	}
	if roots < 20 || squares < 200 {
		t.Error("only so many were tried:", roots, squares)
	}
}

// P1.9: numbers are in one order, which sums keep, and products with what is above 0.
func TestOrderLaws(t *testing.T) {
	numbers := lawful(t)
	for _, x := range numbers {
		for _, y := range numbers {
			n, _ := Compare(x, y)
			if (n == 0) != same(x, y) {
				t.Error("equal, or not", x, y, n)
			}
			for _, z := range numbers {
				keepsOrder(t, n, add(x, z), add(y, z))
				if positive, _ := Sign(z); positive > 0 {
					keepsOrder(t, n, mul(x, z), mul(y, z))
				}
				m, _ := Compare(y, z)
				if k, _ := Compare(x, z); n == m && k != n {
					t.Error("not in one order", x, y, z)
				}
			}
		}
	}
}

func keepsOrder(t *testing.T, want int, r, s result) {
	t.Helper()
	if r.e != api.OK || s.e != api.OK {
		return
	}
	if n, e := Compare(r.x, s.x); n != want || e != api.OK {
		t.Error("another order", r.x, s.x, n, e)
	}
}

// P1.10: bounds differ by at most 1, and not at all for integers; with a multiple of the denominator they are no wider.
func TestBoundsLaws(t *testing.T) {
	for _, x := range append(lawful(t), generated(100, 4, 1000)...) {
		for _, den := range []int{1, 2, 3, 60, 999} {
			low, high, e := Bounds(x, den)
			scaled, f := Mul(x, api.Number{Den: 1, Terms: terms(den, 1)})
			integer := scaled.Den == 1 && (len(scaled.Terms) == 0 || len(scaled.Terms) == 1 && scaled.Terms[0].Root == 1)
			if e != api.OK || high-low > 1 || high < low || f == api.OK && (low == high) != integer {
				t.Error(x, den, low, high, e)
			}
			for _, k := range []int{2, 7, 1000} {
				if finer, wider, e := Bounds(x, den*k); e != api.OK || finer < low*k || wider > high*k {
					t.Error(x, den, k, finer, wider, e)
				}
			}
		}
	}
}

// P1.11: what is written is read as the same number. (TestAllShortTexts has the other direction.)
func TestTextLaws(t *testing.T) {
	for _, size := range []int{2, 20, 2000, api.MaxCoef} {
		for _, x := range generated(300, 4, size) {
			s, e := Format(x)
			y, f := Parse(s)
			if e != api.OK || f != api.OK || !same(x, y) || len(s) > api.MaxNumber {
				t.Error(x, s, y, e, f)
			}
		}
	}
}

// P1.11: what is read without an error, from texts that were changed in one byte, is what is written.
func TestChangedTexts(t *testing.T) {
	for _, x := range generated(40, 4, 200) {
		s, _ := Format(x)
		for i := range s {
			for c := range 256 {
				changed := s[:i] + string([]byte{byte(c)}) + s[i+1:]
				y, e := Parse(changed)
				if e != api.OK {
					continue
				}
				if again, f := Format(y); again != changed || f != api.OK {
					t.Errorf("%q is read, and written as %q", changed, again)
				}
			}
		}
	}
}
