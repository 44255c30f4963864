package cord

import (
	"math/big"
	"slices"
	"testing"

	"chiti/api"
	"chiti/surd"
)

// P2.7: by how much numbers are off a root.
func TestOff(t *testing.T) {
	for _, c := range []struct {
		x         string
		n, den    int
		low, high int
		e         api.Errno
	}{
		{"577/408", 2, 1000000, 2, 3, api.OK},
		{"7/5", 2, 1000, -15, -14, api.OK},
		{"17/12", 2, 408, 1, 2, api.OK},
		{"0", 2, 1, -2, -1, api.OK},
		{"2", 4, 10, 0, 0, api.OK},
		{"5/2", 4, 10, 5, 5, api.OK},
		{"5/2", 4, 1, 0, 1, api.OK},
		{"-5/2", 4, 2, -9, -9, api.OK},
		{"r2", 8, 1, -2, -1, api.OK},
		{"2r2", 8, 7, 0, 0, api.OK},
		{"1+r3", 3, 12, 12, 12, api.OK},
		{"1+r2+r3+r5", 5, 1, 4, 5, api.OK},
		// Limits of n and of the denominator.
		{"1", 1, 1, 0, 0, api.OK},
		{"32", 1000, 1, 0, 1, api.OK},
		{"32", 1000, 100, 37, 38, api.OK},
		{"1", 0, 1, 0, 0, api.ErrRange},
		{"1", -4, 1, 0, 0, api.ErrRange},
		{"1", 1001, 1, 0, 0, api.ErrRange},
		{"7/5", 2, 1000000000, -14213563, -14213562, api.OK},
		{"1", 2, 1000000001, 0, 0, api.ErrRange},
		{"1", 2, 0, 0, 0, api.ErrRange},
		{"1", 2, -1, 0, 0, api.ErrRange},
		// The errors of the difference.
		{"r2+r3+r5+r7", 11, 1, 0, 0, api.ErrFull},
		{"1+r2+r3+r5", 7, 1, 0, 0, api.ErrFull},
		{"1/60000", 8, 1, 0, 0, api.ErrOver},
		{"-100000", 1, 1, 0, 0, api.ErrOver},
		{"100000", 1, 1, 99999, 99999, api.OK},
		// The order of errors.
		{"no", 0, 0, 0, 0, api.ErrArg},
		{"no", 2, 1, 0, 0, api.ErrArg},
		{"r2+r3+r5+r7", 1001, 0, 0, 0, api.ErrRange},
		{"r2+r3+r5+r7", 11, 0, 0, 0, api.ErrFull},
		{"1/60000", 8, 0, 0, 0, api.ErrOver},
	} {
		low, high, e := Off(anyNum(t, c.x), c.n, c.den)
		if low != c.low || high != c.high || e != c.e {
			t.Error(c.x, c.n, c.den, low, high, e)
		}
	}
}

// P2.7: whether numbers are off a root by no more than a bound.
func TestWithin(t *testing.T) {
	for _, c := range []struct {
		x, bound string
		n        int
		want     bool
		e        api.Errno
	}{
		{"577/408", "3/100000", 2, true, api.OK},
		{"577/408", "1/100000", 2, true, api.OK},
		{"577/408", "1/408", 2, true, api.OK},
		{"7/5", "1/70", 2, true, api.OK},
		{"7/5", "1/71", 2, false, api.OK},
		{"3/2", "1/12", 2, false, api.OK},
		{"3/2", "1/11", 2, true, api.OK},
		// A difference that is the bound is within it.
		{"2", "0", 4, true, api.OK},
		{"5/2", "1/2", 4, true, api.OK},
		{"3/2", "1/2", 4, true, api.OK},
		{"1", "-1+r2", 2, true, api.OK},
		{"-1+2r2", "-1+r2", 2, true, api.OK},
		{"5/2", "49/99", 4, false, api.OK},
		{"3/2", "49/99", 4, false, api.OK},
		{"0", "r2", 2, true, api.OK},
		{"0", "1", 2, false, api.OK},
		{"-r2", "3", 2, true, api.OK},
		{"-r2", "2", 2, false, api.OK},
		// Nothing is within a bound below 0.
		{"2", "-1", 4, false, api.OK},
		{"2", "-1/100000", 4, false, api.OK},
		{"3", "-2", 4, false, api.OK},
		{"1", "-1", 4, false, api.OK},
		{"1", "1-r2", 2, false, api.OK},
		{"1", "0", 1, true, api.OK},
		{"32", "1", 1000, true, api.OK},
		// Errors and their order.
		{"no", "1", 0, false, api.ErrArg},
		{"1", "no", 0, false, api.ErrArg},
		{"no", "1", 2, false, api.ErrArg},
		{"1", "no", 2, false, api.ErrArg},
		{"r2+r3+r5+r7", "no", 11, false, api.ErrArg},
		{"1", "1", 0, false, api.ErrRange},
		{"1", "1", 1001, false, api.ErrRange},
		{"r2+r3+r5+r7", "1", 1001, false, api.ErrRange},
		{"r2+r3+r5+r7", "1", 11, false, api.ErrFull},
		{"r2+r3+r5+r7", "-1", 11, false, api.ErrFull},
		{"1/60000", "1", 8, false, api.ErrOver},
	} {
		is, e := Within(anyNum(t, c.x), c.n, anyNum(t, c.bound))
		if is != c.want || e != c.e {
			t.Error(c.x, c.n, c.bound, is, e)
		}
	}
}

// offNumbers returns numbers with few and many terms, which are near to roots or far from them.
func offNumbers(t *testing.T) []api.Number {
	t.Helper()
	var l []api.Number
	for _, s := range []string{
		"0", "1", "-1", "3/2", "7/5", "17/12", "577/408", "-22/7", "97/56", "r2", "-r3/2", "1+r2", "(1+r5)/2", "2r2", "5r10", "1+r2+r3", "(3-2r2+r6)/4", "r2+r3+r5+r7", "(31000+r7)/1000", "-99/70",
	} {
		l = append(l, num(t, s))
	}
	return l
}

// P2.7: Off and Within agree with approximations.
func TestOffOfMany(t *testing.T) {
	for _, x := range offNumbers(t) {
		for n := 1; n <= 60; n++ {
			value := approximate(x)
			value.Sub(value, rootOf(n))
			for _, den := range []int{1, 60, 12345, api.MaxFine} {
				low, high, e := Off(x, n, den)
				if e == api.ErrFull {
					continue
				}
				if e != api.OK || !encloses(low, high, value, value, den) || high-low > 1 {
					t.Error(told(x), n, den, low, high, e)
				}
			}
			for _, bound := range []string{"1/60", "1/3", "1", "r3", "5/2"} {
				is, e := Within(x, n, num(t, bound))
				size := new(big.Float).Abs(value)
				if want := size.Cmp(approximate(num(t, bound))) <= 0; e == api.OK && is != want {
					t.Error(told(x), n, bound, is, e)
				}
			}
		}
	}
}

// encloses reports whether low / den and high / den are the narrowest bounds of what is from least to greatest, but for the rounding of approximations.
func encloses(low, high int, least, greatest *big.Float, den int) bool {
	below := new(big.Float).Mul(least, float(den))
	below.Sub(below, float(low))
	above := new(big.Float).Mul(greatest, float(den))
	above.Sub(float(high), above)
	hair := new(big.Float).SetMantExp(float(1), -precision/2)
	wide := new(big.Float).Add(float(1), hair)
	hair.Neg(hair)
	return below.Cmp(hair) > 0 && below.Cmp(wide) < 0 && above.Cmp(hair) > 0 && above.Cmp(wide) < 0
}

// P2.15: a whole number more moves Off; a number is within the greater size of both bounds.
func TestOffLaws(t *testing.T) {
	for _, x := range offNumbers(t) {
		for _, n := range []int{1, 2, 3, 4, 5, 10, 48, 961, 1000} {
			for _, den := range []int{1, 7, 60, 1000, 100000} {
				low, high, e := Off(x, n, den)
				if e != api.OK {
					continue
				}
				for _, more := range []int{-30, -1, 1, 2, 57} {
					y, f := surd.Add(x, fraction(more, 1))
					if f != api.OK {
						continue
					}
					if a, b, e := Off(y, n, den); e == api.OK && (a != low+more*den || b != high+more*den) {
						t.Error(told(x), n, den, more, low, high, a, b)
					}
				}
				bound, f := surd.Make(den, []api.Term{{Coef: max(low, -low, high, -high), Root: 1}})
				if f != api.OK {
					continue
				}
				if is, e := Within(x, n, bound); !is || e != api.OK {
					t.Error(told(x), n, den, low, high, is, e)
				}
			}
		}
	}
}

// P2.8, P2.9: nearest fractions, and denominators of records.
func TestNearest(t *testing.T) {
	for _, c := range [][4]int{
		{2, 1, 1, 1}, {2, 2, 3, 2}, {2, 3, 4, 3}, {2, 4, 4, 3}, {2, 5, 7, 5}, {2, 11, 7, 5}, {2, 12, 17, 12}, {2, 98, 99, 70}, {2, 99, 140, 99}, {2, 100, 140, 99}, {2, 3000, 3363, 2378},
		{1, 1, 1, 1}, {1, 3000, 1, 1}, {4, 2, 2, 1}, {4, 3000, 2, 1}, {961, 3000, 31, 1},
		{3, 1, 2, 1}, {3, 60, 97, 56}, {7, 1, 3, 1}, {10, 40, 117, 37}, {1000, 1, 32, 1},
	} {
		num, den, e := Nearest(c[0], c[1])
		if num != c[2] || den != c[3] || e != api.OK {
			t.Error(c, num, den, e)
		}
	}
	for n, want := range map[int][]int{1: {1}, 2: {1, 2, 3, 5, 12, 17, 29, 70, 99}, 4: {1}, 5: {1, 3, 4, 9, 13, 17, 55, 72}, 900: {1}} {
		if l, e := Records(n, 100); !slices.Equal(l, want) || e != api.OK {
			t.Error(n, l, e)
		}
	}
	for most, want := range map[int][]int{1: {1}, 2: {1, 2}, 4: {1, 2, 3}, 5: {1, 2, 3, 5}, 98: {1, 2, 3, 5, 12, 17, 29, 70}} {
		if l, e := Records(2, most); !slices.Equal(l, want) || e != api.OK {
			t.Error(most, l, e)
		}
	}
}

// P2.8, P2.9: the limits of both.
func TestNearestErrors(t *testing.T) {
	for _, c := range []struct {
		n, most int
		e       api.Errno
	}{
		{0, 1, api.ErrRange}, {-2, 1, api.ErrRange}, {1001, 1, api.ErrRange}, {2, 0, api.ErrRange}, {2, -1, api.ErrRange}, {2, 3001, api.ErrRange}, {0, 3001, api.ErrRange},
		{1, 1, api.OK}, {1000, 3000, api.OK}, {1, 3000, api.OK}, {1000, 1, api.OK},
	} {
		num, den, e := Nearest(c.n, c.most)
		l, f := Records(c.n, c.most)
		if e != c.e || f != c.e || e != api.OK && (num != 0 || den != 0 || len(l) != 0) || e == api.OK && (den == 0 || len(l) == 0) {
			t.Error(c, num, den, e, l, f)
		}
	}
}

// bruteRecords looks at the numerators on both sides of the root for each denominator.
func bruteRecords(n, most int) []ratio {
	var l []ratio
	root := rootOf(n)
	var best *big.Float
	for den := 1; den <= most; den++ {
		at, _ := new(big.Float).Mul(root, float(den)).Int64()
		found := ratio{}
		for num := int(at) - 1; num <= int(at)+2; num++ {
			off := new(big.Float).Quo(float(num), float(den))
			off.Abs(off.Sub(off, root))
			if best == nil || off.Cmp(best) < 0 && !tiny(new(big.Float).Sub(best, off)) {
				best, found = off, ratio{num, den}
			}
		}
		if found.den > 0 {
			l = append(l, found)
		}
	}
	return l
}

func tiny(d *big.Float) bool { return d.Sign() == 0 || d.MantExp(nil) < -precision/2 }

// P2.8, P2.9, P2.14: for every root, the records are those that a search finds, and the nearest fraction is the last of them, in lowest terms.
func TestNearestOfAllRoots(t *testing.T) {
	check := func(n, most int) {
		want := bruteRecords(n, most)
		l, e := Records(n, most)
		if e != api.OK || !slices.EqualFunc(l, want, func(den int, r ratio) bool { return den == r.den }) {
			t.Error(n, most, l, e, want)
		}
		last := want[len(want)-1]
		num, den, e := Nearest(n, most)
		common := new(big.Int).GCD(nil, nil, big.NewInt(int64(num)), big.NewInt(int64(den)))
		if num != last.num || den != last.den || common.Int64() != 1 || den != l[len(l)-1] || e != api.OK {
			t.Error(n, most, num, den, e, last)
		}
	}
	for n := 1; n <= api.MaxRoot; n++ {
		check(n, 40)
	}
	for _, n := range []int{2, 3, 5, 7, 13, 61, 421, 729, 991, 997, 998, 999, 1000} {
		check(n, api.MaxNear)
	}
}
