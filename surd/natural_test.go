package surd

import (
	"math/big"
	"testing"

	"chiti/api"
)

func toBig(a natural) *big.Int {
	n := new(big.Int)
	for i := len(a) - 1; i >= 0; i-- {
		n.Lsh(n, wordBits)
		n.Or(n, new(big.Int).SetUint64(a[i]))
	}
	return n
}

func naturals() []natural {
	const all = ^uint64(0)
	next := pseudo()
	l := []natural{nil, {1}, {2}, {all}, {0, 1}, {all, all}, {1, 1}, {0, 0, 1}, {all, 0, all}, {0, 0, 0, 1 << 63}}
	for n := range 12 {
		a := make(natural, n%6+1)
		for i := range a {
			a[i] = uint64(next(1<<62)) * 5
		}
		l = append(l, a.trimmed())
	}
	return l
}

func isBig(t *testing.T, what string, a natural, want *big.Int) {
	t.Helper()
	if toBig(a).Cmp(want) != 0 || len(a) > 0 && a[len(a)-1] == 0 {
		t.Error(what, a, want)
	}
}

// The integers that decide orders (P1.4, P1.5) are computed as those of math/big.
func TestNatural(t *testing.T) {
	for _, a := range naturals() {
		for _, b := range naturals() {
			isBig(t, "plus", a.plus(b), new(big.Int).Add(toBig(a), toBig(b)))
			if a.compare(b) != toBig(a).Cmp(toBig(b)) {
				t.Error("compare", a, b)
			}
			if a.compare(b) >= 0 {
				isBig(t, "minus", a.minus(b), new(big.Int).Sub(toBig(a), toBig(b)))
			}
		}
		for _, n := range []uint64{1, 2, 3, 100000, 1 << 40, ^uint64(0)} {
			by := new(big.Int).SetUint64(n)
			isBig(t, "times", a.times(n), new(big.Int).Mul(toBig(a), by))
			isBig(t, "over", a.over(n), new(big.Int).Quo(toBig(a), by))
		}
		for _, n := range []int{0, 1, 2, 26, 63, 64, 65, 127, 128, 200, 400} {
			isBig(t, "doubled", a.doubled(n), new(big.Int).Lsh(toBig(a), uint(n)))
			isBig(t, "halved", a.halved(n), new(big.Int).Rsh(toBig(a), uint(n)))
		}
	}
}

// Square roots (P1.4, P1.5) are right to the last digit with which a sum is enclosed.
func TestRootDigits(t *testing.T) {
	for _, n := range []int{1, 2, 3, 5, 899, 961, 997, 1000} {
		for step := range refinements {
			digits := firstDigits << step
			square := new(big.Int).Lsh(big.NewInt(int64(n)), uint(2*digits))
			isBig(t, "root", rootDigits(n, digits), square.Sqrt(square))
		}
	}
}

// The last enclosure is close enough for any two numbers (P1.4): its digits are more than the bound in refine.go asks for.
func TestEnoughDigits(t *testing.T) {
	if digits := firstDigits << (refinements - 1); digits < 42*127+37 {
		t.Error(digits)
	}
	all := sum{}
	for i, u := range terms(1, 986, 1, 987, 1, 989, 1, 991, 1, 993, 1, 994, 1, 995, 1, 997) {
		all.add((1-i%2*2)*api.MaxCoef*api.MaxDen, u)
	}
	above, below := all.enclose(firstDigits)
	total := toBig(above[1].plus(below[1]))
	if bits := total.BitLen() - firstDigits; bits > 42 {
		t.Error("parts are not together below 2^42", bits)
	}
}

// Whole numbers are taken apart into squares and what is left of them (P1.1, P1.3).
func TestSplit(t *testing.T) {
	for n := 1; n <= 3000; n++ {
		side, rest := split(n)
		if side*side*rest != n {
			t.Error(n, side, rest)
		}
		for d := 2; d*d <= rest; d++ {
			if rest%(d*d) == 0 {
				t.Error("a square is left", n, rest)
			}
		}
	}
}
