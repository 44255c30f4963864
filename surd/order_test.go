package surd

import (
	"math"
	"math/big"
	"testing"

	"chiti/api"
)

// closeSums are coefficients and roots of sums that are very near to 0, but not 0.
func closeSums() [][]api.Term {
	return [][]api.Term{
		terms(577, 1, -408, 2),
		terms(-99, 1, 70, 2),
		terms(11592, 1, 2057, 2, -15777, 3, 5236, 6),
		terms(1559, 2, -17132, 3, 24804, 5, -10581, 7),
		terms(8435, 1, 6967, 2, -20605, 3, 7782, 5),
		terms(5455, 991, 13446, 993, -13392, 995, -5479, 997),
		terms(19043, 2, -47518, 3, 249, 5, -1707, 7, 27779, 11, 23467, 13, -109, 17, -26833, 19),
		terms(16390, 1, -28300, 2, 32737, 3, 26067, 5, -8042, 6, 12420, 10, -37530, 15, 6284, 30),
		terms(42886, 1, -20229, 2, -21980, 3, 5732, 5, -3242, 6, 13281, 7, 17334, 11, -20444, 13),
		terms(9174, 983, -19574, 985, -8584, 986, -29353, 987, 60628, 989, -44225, 991, -2576, 994, 34368, 997),
	}
}

// P1.4: signs, also of numbers that are near to 0.
func TestSign(t *testing.T) {
	for _, c := range []struct {
		x    string
		sign int
	}{
		{"0", 0}, {"1", 1}, {"-1", -1}, {"1/100000", 1}, {"-1/100000", -1}, {"r2", 1}, {"-r2", -1},
		{"(577-408r2)/408", 1}, {"(-577+408r2)/408", -1}, {"-99+70r2", -1}, {"99-70r2", 1},
		{"r2+r3-r10", -1}, {"-r2-r3+r10", 1}, {"1+r2+r3-r17", 1}, {"100000r997", 1}, {"-100000r997", -1},
	} {
		if n, e := Sign(num(t, c.x)); n != c.sign || e != api.OK {
			t.Error(c.x, n, e)
		}
	}
	for i, l := range closeSums() {
		if len(l) > api.MaxTerms {
			continue
		}
		x := api.Number{Den: 1, Terms: l}
		if n, e := Sign(x); n != approximate(x).Sign() || n == 0 || e != api.OK {
			t.Error(i, n, e)
		}
	}
}

// P1.4: which of two numbers is greater, also if they are near to each other.
func TestCompare(t *testing.T) {
	for _, c := range []struct {
		x, y string
		n    int
	}{
		{"0", "0", 0}, {"0", "1/100000", -1}, {"1/3", "33333/100000", 1}, {"1/2", "1/2", 0},
		{"r2+r3", "22/7", 1}, {"r2", "577/408", -1}, {"r2", "1393/985", 1}, {"r2", "r2", 0},
		{"-r2", "r2", -1}, {"r2+r3", "r10", -1}, {"r10+r11", "3r2+r5", 1}, {"1/99999", "1/100000", 1},
		{"1+r2+r3+r5", "1+r2+r3+r5", 0}, {"1+r2+r3+r5", "1+r2+r3+r6", -1}, {"100000r997", "100000r995", 1},
	} {
		x, y := num(t, c.x), num(t, c.y)
		n, e := Compare(x, y)
		m, f := Compare(y, x)
		if n != c.n || m != -c.n || e != api.OK || f != api.OK {
			t.Error(c.x, c.y, n, m, e, f)
		}
	}
}

// P1.4: sums of eight roots that are nearer to 0 than 2^-100 are told from it.
func TestCompareClose(t *testing.T) {
	for i, l := range closeSums() {
		x, y := api.Number{Den: 1}, api.Number{Den: 1}
		for k, u := range l {
			if k < len(l)/2 {
				x.Terms = append(x.Terms, u)
			} else {
				y.Terms = append(y.Terms, api.Term{Coef: -u.Coef, Root: u.Root})
			}
		}
		want := approximate(x).Cmp(approximate(y))
		n, e := Compare(x, y)
		m, f := Compare(y, x)
		if want == 0 || n != want || m != -want || e != api.OK || f != api.OK {
			t.Error(i, n, m, e, f)
		}
	}
}

// P1.4: of all generated numbers, the order is that of their values.
func TestCompareValues(t *testing.T) {
	for _, size := range []int{3, 1000, api.MaxCoef} {
		numbers := generated(80, 4, size)
		for _, x := range numbers {
			for _, y := range numbers {
				want := approximate(x).Cmp(approximate(y))
				if same(x, y) {
					want = 0
				}
				if n, e := Compare(x, y); n != want || e != api.OK {
					t.Fatal(x, y, n, e)
				}
			}
		}
	}
}

// P1.5: the greatest integer that is not above a number.
func TestFloor(t *testing.T) {
	for _, c := range []struct {
		x string
		n int
	}{
		{"0", 0}, {"7", 7}, {"-7", -7}, {"7/2", 3}, {"-7/2", -4}, {"1/100000", 0}, {"-1/100000", -1},
		{"r2", 1}, {"-r2", -2}, {"r2/2", 0}, {"-r2/2", -1}, {"(577-408r2)/408", 0}, {"(-577+408r2)/408", -1},
		{"578-408r2", 1}, {"576-408r2", -1}, {"100000r997", 3157530}, {"-100000r997", -3157531}, {"(1+r5)/2", 1},
	} {
		if n, e := Floor(num(t, c.x)); n != c.n || e != api.OK {
			t.Error(c.x, n, e)
		}
	}
}

// P1.5: bounds with a denominator.
func TestBounds(t *testing.T) {
	for _, c := range []struct {
		x              string
		den, low, high int
		e              api.Errno
	}{
		{"r2", 408, 576, 577, api.OK},
		{"r2", 1, 1, 2, api.OK},
		{"-r2", 1, -2, -1, api.OK},
		{"-r2", 10, -15, -14, api.OK},
		{"r2", 1000000000, 1414213562, 1414213563, api.OK},
		{"-r2", 1000000000, -1414213563, -1414213562, api.OK},
		{"5/6", 12, 10, 10, api.OK},
		{"5/6", 4, 3, 4, api.OK},
		{"-5/6", 12, -10, -10, api.OK},
		{"-5/6", 4, -4, -3, api.OK},
		{"0", 1000000000, 0, 0, api.OK},
		{"100000", 1000000000, 100000000000000, 100000000000000, api.OK},
		{"-100000", 1000000000, -100000000000000, -100000000000000, api.OK},
		{"100000r997", 1000000000, 3157530680769388, 3157530680769389, api.OK},
		{"100000r994+100000r995+100000r996", 1, 0, 0, api.ErrArg},
		{"r2", 0, 0, 0, api.ErrRange},
		{"r2", -1, 0, 0, api.ErrRange},
		{"r2", 1000000001, 0, 0, api.ErrRange},
		{"r2", math.MinInt, 0, 0, api.ErrRange},
		{"r2", math.MaxInt, 0, 0, api.ErrRange},
		{"5/6", 0, 0, 0, api.ErrRange},
		{"0", 1000000001, 0, 0, api.ErrRange},
	} {
		x, parsed := Parse(c.x)
		if parsed != api.OK && c.e != api.ErrArg {
			t.Fatal(c.x)
		}
		if low, high, e := Bounds(x, c.den); low != c.low || high != c.high || e != c.e {
			t.Error(c.x, c.den, low, high, e)
		}
	}
}

// P1.5: Bounds and Floor are right for all generated numbers, and for those that are near to an integer.
func TestBoundsValues(t *testing.T) {
	numbers := append(generated(100, 4, 50), generated(100, 4, api.MaxCoef)...)
	for _, l := range closeSums() {
		if len(l) <= api.MaxTerms {
			numbers = append(numbers, api.Number{Den: 1, Terms: l})
		}
	}
	numbers = append(numbers,
		api.Number{Den: 1, Terms: terms(100000, 993, 100000, 994, 100000, 995, 100000, 997)},
		api.Number{Den: 1, Terms: terms(-100000, 993, -100000, 994, -100000, 995, -100000, 997)})
	for _, x := range numbers {
		for _, den := range []int{1, 2, 7, 408, 99999, 999999937, 1000000000} {
			low, high, e := Bounds(x, den)
			if e != api.OK || !bounded(x, den, low, high) {
				t.Error(x, den, low, high, e)
			}
		}
		low, _, _ := Bounds(x, 1)
		if n, e := Floor(x); n != low || e != api.OK {
			t.Error(x, n, e)
		}
	}
}

// bounded reports whether low is the greatest integer that is not above x * den, and high the least one that is not below it.
func bounded(x api.Number, den, low, high int) bool {
	if len(x.Terms) == 0 || len(x.Terms) == 1 && x.Terms[0].Root == 1 {
		n := 0
		if len(x.Terms) > 0 {
			n = x.Terms[0].Coef * den
		}
		return low*x.Den <= n && n < (low+1)*x.Den && high*x.Den >= n && n > (high-1)*x.Den
	}
	product := approximate(x)
	product.Mul(product, new(big.Float).SetInt64(int64(den)))
	return new(big.Float).SetInt64(int64(low)).Cmp(product) < 0 && new(big.Float).SetInt64(int64(high)).Cmp(product) > 0 && high-low == 1
}
