package surd

import (
	"math/big"
	"testing"

	"chiti/api"
)

type operation struct {
	name  string
	of    func(x, y api.Number) (api.Number, api.Errno)
	value func(z, x, y *big.Float) *big.Float
}

func operations() []operation {
	return []operation{
		{"Add", Add, (*big.Float).Add},
		{"Sub", Sub, (*big.Float).Sub},
		{"Mul", Mul, (*big.Float).Mul},
		{"Quo", Quo, (*big.Float).Quo},
	}
}

// P1.2: sums, differences, products and quotients, as texts or as errors.
func TestArithmetic(t *testing.T) {
	for _, c := range []struct {
		x, y    string
		results [4]string
		errors  [4]api.Errno
	}{
		{"0", "0", [4]string{"0", "0", "0", ""}, [4]api.Errno{3: api.ErrNone}},
		{"1", "0", [4]string{"1", "1", "0", ""}, [4]api.Errno{3: api.ErrNone}},
		{"0", "1+r2", [4]string{"1+r2", "-1-r2", "0", "0"}, [4]api.Errno{}},
		{"1", "1+r2", [4]string{"2+r2", "-r2", "1+r2", "-1+r2"}, [4]api.Errno{}},
		{"1+r2", "1-r2", [4]string{"2", "2r2", "-1", "-3-2r2"}, [4]api.Errno{}},
		{"1", "r3", [4]string{"1+r3", "1-r3", "r3", "r3/3"}, [4]api.Errno{}},
		{"-1/2", "-1/3", [4]string{"-5/6", "-1/6", "1/6", "3/2"}, [4]api.Errno{}},
		{"1/6", "1/3", [4]string{"1/2", "-1/6", "1/18", "1/2"}, [4]api.Errno{}},
		{"r6", "r10", [4]string{"r6+r10", "r6-r10", "2r15", "r15/5"}, [4]api.Errno{}},
		{"(1+r5)/2", "(1-r5)/2", [4]string{"1", "r5", "-1", "(-3-r5)/2"}, [4]api.Errno{}},
		{"r2+r3", "r2-r3", [4]string{"2r2", "2r3", "-1", "-5-2r6"}, [4]api.Errno{}},
		{"1", "-r2-r3", [4]string{"1-r2-r3", "1+r2+r3", "-r2-r3", "r2-r3"}, [4]api.Errno{}},
		{"1+r2+r3+r6", "r6", [4]string{"1+r2+r3+2r6", "1+r2+r3", "6+3r2+2r3+r6", "(6+3r2+2r3+r6)/6"}, [4]api.Errno{}},
		{"1+r2+r3", "1+r2+r3", [4]string{"2+2r2+2r3", "0", "6+2r2+2r3+2r6", ""}, [4]api.Errno{3: api.ErrSurd}},
		{"0", "1+r2+r3", [4]string{"1+r2+r3", "-1-r2-r3", "0", ""}, [4]api.Errno{3: api.ErrSurd}},
		{"1+r2+r3+r5", "r7", [4]string{"", "", "r7+r14+r21+r35", "(r7+r14+r21+r35)/7"}, [4]api.Errno{api.ErrFull, api.ErrFull, 0, 0}},
		{"1+r2+r3", "r5+r7", [4]string{"", "", "", ""}, [4]api.Errno{api.ErrFull, api.ErrFull, api.ErrFull, api.ErrFull}},
		{"r31", "r37", [4]string{"r31+r37", "r31-r37", "", ""}, [4]api.Errno{2: api.ErrOver, 3: api.ErrOver}},
		{"r499", "r2", [4]string{"r2+r499", "-r2+r499", "r998", "r998/2"}, [4]api.Errno{}},
		{"100000", "1", [4]string{"", "99999", "100000", "100000"}, [4]api.Errno{0: api.ErrOver}},
		{"-100000", "1", [4]string{"-99999", "", "-100000", "-100000"}, [4]api.Errno{1: api.ErrOver}},
		{"1000", "101", [4]string{"1101", "899", "", "1000/101"}, [4]api.Errno{2: api.ErrOver}},
		{"1/1000", "1/101", [4]string{"", "", "", "101/1000"}, [4]api.Errno{api.ErrOver, api.ErrOver, api.ErrOver, 0}},
		{"1/100000", "1/100000", [4]string{"1/50000", "0", "", "1"}, [4]api.Errno{2: api.ErrOver}},
		{"100000r997", "100000r997", [4]string{"", "0", "", "1"}, [4]api.Errno{0: api.ErrOver, 2: api.ErrOver}},
		// With too many terms that are too great, too, there are too many terms.
		{"100000+r2+r3", "99999+r5+r7", [4]string{"", "", "", ""}, [4]api.Errno{api.ErrFull, api.ErrFull, api.ErrFull, api.ErrSurd}},
	} {
		x, y := num(t, c.x), num(t, c.y)
		for i, o := range operations() {
			z, e := o.of(x, y)
			if e != c.errors[i] {
				t.Error(o.name, c.x, c.y, "error", e, "instead of", c.errors[i])
			} else if e != api.OK && !isZero(z) {
				t.Error(o.name, c.x, c.y, "a number with an error", z)
			} else if s, _ := Format(z); s != c.results[i] {
				t.Error(o.name, c.x, c.y, s, "instead of", c.results[i])
			}
		}
	}
}

// P1.2: the results have the right values and are valid numbers; what is refused really has too many terms or too great ones.
func TestArithmeticValues(t *testing.T) {
	for _, size := range []int{5, 300, api.MaxCoef} {
		numbers := generated(60, 3, size)
		for _, x := range numbers {
			for _, y := range numbers {
				for _, o := range operations() {
					z, e := o.of(x, y)
					if e != api.OK {
						continue
					}
					want := o.value(new(big.Float).SetPrec(precision), approximate(x), approximate(y))
					if Check(z) != api.OK || !near(approximate(z), want) {
						t.Fatal(o.name, x, y, z)
					}
				}
			}
		}
	}
}

// P1.2: the greatest coefficients do not overflow on the way to a result or an error.
func TestArithmeticOfGreatNumbers(t *testing.T) {
	for _, s := range []string{"(99999r993-100000r997)/99998", "(-99999+100000r997)/99998", "(100000r985-99999r995)/99997"} {
		x := num(t, s)
		if one, e := Quo(x, x); e != api.OK || !same(one, num(t, "1")) {
			t.Error(s, one, e)
		}
		if z, e := Mul(x, x); e != api.ErrOver {
			t.Error(s, z, e)
		}
		if z, e := Quo(num(t, "1"), x); e != api.ErrOver {
			t.Error(s, z, e)
		}
		if z, e := Sub(x, x); e != api.OK || !same(z, num(t, "0")) {
			t.Error(s, z, e)
		}
	}
}

// P1.3: square roots, as texts or as errors.
func TestRoot(t *testing.T) {
	for _, c := range []struct {
		x, root string
		e       api.Errno
	}{
		{"0", "0", api.OK},
		{"1", "1", api.OK},
		{"2", "r2", api.OK},
		{"8", "2r2", api.OK},
		{"3/4", "r3/2", api.OK},
		{"4/3", "2r3/3", api.OK},
		{"1/2", "r2/2", api.OK},
		{"49/9", "7/3", api.OK},
		{"100000", "100r10", api.OK},
		{"1/100000", "r10/1000", api.OK},
		{"3+2r2", "1+r2", api.OK},
		{"3-2r2", "-1+r2", api.OK},
		{"5-2r6", "-r2+r3", api.OK},
		{"5+2r6", "r2+r3", api.OK},
		{"2+r3", "(r2+r6)/2", api.OK},
		{"2-r3", "(-r2+r6)/2", api.OK},
		{"(3+r5)/2", "(1+r5)/2", api.OK},
		{"(3-r5)/2", "(-1+r5)/2", api.OK},
		{"(5+2r6)/9", "(r2+r3)/3", api.OK},
		{"1+r2", "", api.ErrSurd},
		{"-1+r2", "", api.ErrSurd},
		{"r2", "", api.ErrSurd},
		{"r2/2", "", api.ErrSurd},
		{"r2+r3", "", api.ErrSurd},
		{"-r2+r3", "", api.ErrSurd},
		{"3+r2+r3", "", api.ErrSurd},
		{"10+2r6+2r10+2r15", "", api.ErrSurd},
		{"4+r2", "", api.ErrSurd},
		{"-1", "", api.ErrRange},
		{"-1/100000", "", api.ErrRange},
		{"-r2", "", api.ErrRange},
		{"1-r2", "", api.ErrRange},
		{"-3+2r2", "", api.ErrRange},
		{"-1-r2-r3", "", api.ErrRange},
		{"r2-r3", "", api.ErrRange},
		{"1+r2-r3-r5", "", api.ErrRange},
		{"1009", "", api.ErrOver},
		{"99991", "", api.ErrOver},
		{"1/1009", "", api.ErrOver},
		{"97/89", "", api.ErrOver},
	} {
		r, e := Root(num(t, c.x))
		if e != c.e || e != api.OK && !isZero(r) {
			t.Error(c.x, r, e)
		} else if s, _ := Format(r); s != c.root {
			t.Error(c.x, s)
		}
	}
}

// P1.3: a root that would have a Root, or a Coef, above the limit is refused as too great, not as none: there is a sum whose square it is.
func TestRootOver(t *testing.T) {
	// r1009 * (1 + r2) has the square 1009 * (3 + 2 * r2), and so on.
	for _, x := range []string{"3027+2018r2", "3039-2026r2", "(3+2r2)/1009"} {
		if r, e := Root(num(t, x)); e != api.ErrOver || !isZero(r) {
			t.Error(x, r, e)
		}
	}
}

// P1.3: for every small a, b, d and n, there is a root just if the chapter says so, and its square is the number.
func TestRootOfAllSmall(t *testing.T) {
	for _, n := range []int{2, 3, 5, 6, 7, 10} {
		for a := -30; a <= 30; a++ {
			for b := -12; b <= 12; b++ {
				for d := 1; d <= 4; d++ {
					x, _ := Make(d, terms(a, 1, b, n))
					checkRoot(t, x)
				}
			}
		}
	}
}

func checkRoot(t *testing.T, x api.Number) {
	t.Helper()
	r, e := Root(x)
	value := approximate(x)
	if value.Sign() < 0 {
		if e != api.ErrRange {
			t.Error("below 0", x, r, e)
		}
		return
	}
	if !hasRoot(x) {
		if e != api.ErrSurd {
			t.Error("no root", x, r, e)
		}
		return
	}
	root := approximate(r)
	if e != api.OK || Check(r) != api.OK || root.Sign() < 0 || !near(root.Mul(root, root), value) {
		t.Error(x, r, e)
	}
}

// hasRoot decides for numbers with the root 1 and one other one, as the chapter does in brackets.
func hasRoot(x api.Number) bool {
	a, b, n := 0, 0, 1
	for _, u := range x.Terms {
		if u.Root == 1 {
			a = u.Coef
		} else {
			b, n = u.Coef, u.Root
		}
	}
	for w := 0; w <= 1000; w++ {
		if a*a-b*b*n == w*w {
			return true
		}
	}
	return false
}
