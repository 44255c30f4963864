package cord

import (
	"math"
	"math/big"
	"testing"

	"chiti/api"
	"chiti/surd"
)

// between returns what is known of the ratio of circles, from two texts.
func between(t *testing.T, low, high string) api.Between {
	t.Helper()
	return api.Between{Low: anyNum(t, low), High: anyNum(t, high)}
}

// P2.10: by how many parts circles and squares are too great.
func TestCircles(t *testing.T) {
	for _, c := range []struct {
		x, low, high string
		den          int
		circle       [2]int
		e            api.Errno
		square       [2]int
		f            api.Errno
	}{
		{"(2+r2)/3", "223/71", "22/7", 10000, [2]int{170, 177}, api.OK, [2]int{6484, 6496}, api.OK},
		{"13/15", "223/71", "22/7", 10000, [2]int{-4103, -4098}, api.OK, [2]int{-441, -434}, api.OK},
		{"1", "4", "4", 7, [2]int{0, 0}, api.OK, [2]int{0, 0}, api.OK},
		{"1", "3", "4", 12, [2]int{-3, 0}, api.OK, [2]int{0, 4}, api.OK},
		{"1", "3", "3", 100, [2]int{-25, -25}, api.OK, [2]int{33, 34}, api.OK},
		{"2", "3", "3", 1, [2]int{2, 2}, api.OK, [2]int{4, 5}, api.OK},
		{"1/2", "3", "3", 12, [2]int{-10, -9}, api.OK, [2]int{-8, -8}, api.OK},
		{"2r3/3", "3", "3", 1000, [2]int{0, 0}, api.OK, [2]int{777, 778}, api.OK},
		{"r3/2", "3", "3", 1000, [2]int{-438, -437}, api.OK, [2]int{0, 0}, api.OK},
		{"150", "3", "4", 1, [2]int{16874, 22499}, api.OK, [2]int{22499, 29999}, api.OK},
		{"1", "r10", "r10", 1000, [2]int{-210, -209}, api.OK, [2]int{264, 265}, api.OK},
		{"1", "1/100000", "1/25000", 100000, [2]int{}, api.ErrOver, [2]int{}, api.ErrOver},
		{"1", "1/25000", "1/25000", 100000, [2]int{-99999, -99999}, api.OK, [2]int{9999900000, 9999900000}, api.OK},
		{"1", "3", "3", 1000000000, [2]int{-250000000, -250000000}, api.OK, [2]int{333333333, 333333334}, api.OK},
		// Numbers and denominators that are not allowed.
		{"0", "3", "4", 1, [2]int{}, api.ErrRange, [2]int{}, api.ErrRange},
		{"-1", "3", "4", 1, [2]int{}, api.ErrRange, [2]int{}, api.ErrRange},
		{"1-r2", "3", "4", 1, [2]int{}, api.ErrRange, [2]int{}, api.ErrRange},
		{"1", "3", "4", 0, [2]int{}, api.ErrRange, [2]int{}, api.ErrRange},
		{"1", "3", "4", -1, [2]int{}, api.ErrRange, [2]int{}, api.ErrRange},
		{"1", "3", "4", 1000000001, [2]int{}, api.ErrRange, [2]int{}, api.ErrRange},
		{"no", "3", "4", 1, [2]int{}, api.ErrArg, [2]int{}, api.ErrArg},
		{"1", "no", "4", 1, [2]int{}, api.ErrArg, [2]int{}, api.ErrArg},
		{"1", "3", "no", 1, [2]int{}, api.ErrArg, [2]int{}, api.ErrArg},
		{"1", "0", "4", 1, [2]int{}, api.ErrArg, [2]int{}, api.ErrArg},
		{"1", "-1", "4", 1, [2]int{}, api.ErrArg, [2]int{}, api.ErrArg},
		{"1", "1-r2", "4", 1, [2]int{}, api.ErrArg, [2]int{}, api.ErrArg},
		{"1", "22/7", "223/71", 1, [2]int{}, api.ErrArg, [2]int{}, api.ErrArg},
		{"1", "r2+r3", "22/7", 1, [2]int{}, api.ErrArg, [2]int{}, api.ErrArg},
		{"1", "-1/2", "-1/2", 1, [2]int{}, api.ErrArg, [2]int{}, api.ErrArg},
		{"0", "22/7", "223/71", 1, [2]int{}, api.ErrArg, [2]int{}, api.ErrArg},
		{"0", "3", "no", 1, [2]int{}, api.ErrArg, [2]int{}, api.ErrArg},
		{"1000", "3", "no", 1, [2]int{}, api.ErrArg, [2]int{}, api.ErrArg},
		{"-1", "no", "4", 0, [2]int{}, api.ErrArg, [2]int{}, api.ErrArg},
		// The errors of the calls.
		{"200", "3", "4", 1, [2]int{}, api.ErrOver, [2]int{}, api.ErrOver},
		{"1000", "3", "4", 0, [2]int{}, api.ErrOver, [2]int{}, api.ErrOver},
		{"1+r2+r3+r5", "3", "4", 0, [2]int{}, api.ErrFull, [2]int{}, api.ErrFull},
		{"1", "1+r2+r3", "1+r2+r3", 1000, [2]int{36, 37}, api.OK, [2]int{}, api.ErrSurd},
		{"1", "3", "1+r2+r3", 100, [2]int{-25, 4}, api.OK, [2]int{}, api.ErrSurd},
		{"1", "1+r2+r3", "5", 100, [2]int{3, 25}, api.OK, [2]int{}, api.ErrSurd},
	} {
		pi := between(t, c.low, c.high)
		low, high, e := Circling(anyNum(t, c.x), pi, c.den)
		if e != c.e || e == api.OK && [2]int{low, high} != c.circle || e != api.OK && (low != 0 || high != 0) {
			t.Error("Circling", c, low, high, e)
		}
		low, high, e = Squaring(anyNum(t, c.x), pi, c.den)
		if e != c.f || e == api.OK && [2]int{low, high} != c.square || e != api.OK && (low != 0 || high != 0) {
			t.Error("Squaring", c, low, high, e)
		}
	}
}

// P2.10: the errors of the calls come in their order, each call for low and then for high, and only then that of the denominator.
func TestCircleErrorsInOrder(t *testing.T) {
	const four, three, two = "r2+r3+r5+r7", "1+r2+r3", "r5+r7"
	for _, c := range []struct {
		rule         func(x api.Number, pi api.Between, den int) (int, int, api.Errno)
		x, low, high string
		want         api.Errno
	}{
		// The product with Low is too great, that with High has too many terms.
		{Circling, "(1+r2)/2", "1/99999", "1+r3+r5", api.ErrOver},
		// The product with High has too many terms; a fourth of that with Low would be too great.
		{Circling, "1+r2", "1/99999", "1+r3+r5", api.ErrFull},
		// A fourth of High is too great; a fourth of Low less 1 would have too many terms.
		{Circling, "1", four, "99999r997/30001", api.ErrOver},
		{Circling, "1", four, four, api.ErrFull},
		{Circling, "1", "3", four, api.ErrFull},
		{Circling, "1", "(-60001+99998r2)/20001", "(-60001+99998r2)/20001", api.ErrOver},
		{Circling, "1", "3", "4", api.ErrRange},
		// Four times the square is too great, before it is divided by what has three terms.
		{Squaring, "200", three, three, api.ErrOver},
		{Squaring, "150", three, three, api.ErrSurd},
		// It is divided by High first.
		{Squaring, three, two, "3+r2+r3", api.ErrSurd},
		{Squaring, three, three, two, api.ErrFull},
		// It is divided by Low before 1 is taken away from what High gives, which would have too many terms.
		{Squaring, "1+r2", three, two, api.ErrSurd},
		{Squaring, "1+r2", two, two, api.ErrFull},
		{Squaring, "1+r2", two, "5", api.ErrFull},
		{Squaring, "1", "3", "4", api.ErrRange},
	} {
		low, high, e := c.rule(num(t, c.x), between(t, c.low, c.high), 0)
		if low != 0 || high != 0 || e != c.want {
			t.Error(c.x, c.low, c.high, low, high, e)
		}
	}
}

// exactExcess returns the narrowest bounds of area - 1 with a denominator, for an area between two fractions.
func exactExcess(low, high *big.Rat, den int) [2]int {
	scaled := func(v *big.Rat) *big.Rat {
		v = new(big.Rat).Sub(v, big.NewRat(1, 1))
		return v.Mul(v, big.NewRat(int64(den), 1))
	}
	below, above := scaled(low), scaled(high)
	floor := new(big.Int).Div(below.Num(), below.Denom())
	above.Neg(above)
	ceiling := new(big.Int).Div(above.Num(), above.Denom())
	return [2]int{int(floor.Int64()), -int(ceiling.Int64())}
}

// P2.10: with fractions, the bounds are the narrowest ones.
func TestCirclesOfFractions(t *testing.T) {
	next := pseudo()
	small := func() api.Number { return fraction(1+next(40), 1+next(12)) }
	for range 3000 {
		x, p, q := small(), small(), small()
		if order, _ := surd.Compare(p, q); order > 0 {
			p, q = q, p
		}
		den := 1 + next(1000)
		square := rational(t, x)
		square.Mul(square, square)
		area := func(pi api.Number) *big.Rat {
			a := new(big.Rat).Mul(square, rational(t, pi))
			return a.Quo(a, big.NewRat(4, 1))
		}
		low, high, e := Circling(x, api.Between{Low: p, High: q}, den)
		if want := exactExcess(area(p), area(q), den); [2]int{low, high} != want || e != api.OK {
			t.Error("Circling", told(x), told(p), told(q), den, low, high, e, want)
		}
		part := func(pi api.Number) *big.Rat {
			a := new(big.Rat).Mul(square, big.NewRat(4, 1))
			return a.Quo(a, rational(t, pi))
		}
		low, high, e = Squaring(x, api.Between{Low: p, High: q}, den)
		if want := exactExcess(part(q), part(p), den); [2]int{low, high} != want || e != api.OK {
			t.Error("Squaring", told(x), told(p), told(q), den, low, high, e, want)
		}
	}
}

// ratios returns what may be known of the ratio of circles, from the widest to the narrowest.
func ratios(t *testing.T) []api.Between {
	t.Helper()
	return []api.Between{
		between(t, "1/2", "100"), between(t, "3", "4"), between(t, "3", "r10"), between(t, "3", "r2+r3"), between(t, "3", "22/7"),
		between(t, "25/8", "22/7"), between(t, "223/71", "22/7"), between(t, "333/106", "22/7"), between(t, "333/106", "355/113"),
	}
}

// P2.10: with roots, the bounds agree with approximations.
func TestCirclesOfRoots(t *testing.T) {
	count := 0
	for _, s := range []string{"(2+r2)/3", "13/15", "1", "r2/2", "2r3/3", "-1+r5", "(1+r5)/2", "7/4", "(-r2+2r3)/2", "-r2+r3"} {
		x, four := num(t, s), float(4)
		square := approximate(x)
		square.Mul(square, square)
		for _, pi := range ratios(t) {
			p, q := approximate(pi.Low), approximate(pi.High)
			for _, den := range []int{1, 10000, api.MaxFine} {
				more := func(v *big.Float) *big.Float { return v.Sub(v, float(1)) }
				if low, high, e := Circling(x, pi, den); e == api.OK {
					count++
					least, greatest := new(big.Float).Mul(square, p), new(big.Float).Mul(square, q)
					if !encloses(low, high, more(least.Quo(least, four)), more(greatest.Quo(greatest, four)), den) {
						t.Error("Circling", s, told(pi.Low), told(pi.High), den, low, high)
					}
				}
				if low, high, e := Squaring(x, pi, den); e == api.OK {
					count++
					all := new(big.Float).Mul(square, four)
					least, greatest := new(big.Float).Quo(all, q), new(big.Float).Quo(all, p)
					if !encloses(low, high, more(least), more(greatest), den) {
						t.Error("Squaring", s, told(pi.Low), told(pi.High), den, low, high)
					}
				}
			}
		}
	}
	if count < 300 {
		t.Error("only so many were tried:", count)
	}
}

// P2.15: who knows more of the ratio has no wider bounds.
func TestCirclesWithNarrowerRatios(t *testing.T) {
	for _, rule := range []func(api.Number, api.Between, int) (int, int, api.Errno){Circling, Squaring} {
		for _, s := range []string{"(2+r2)/3", "13/15", "1", "9/8", "2r3/3"} {
			for _, den := range []int{1, 60, 10000} {
				before := [2]int{math.MinInt, math.MaxInt}
				for _, pi := range ratios(t) {
					low, high, e := rule(num(t, s), pi, den)
					if e != api.OK || low < before[0] || high > before[1] || low > high {
						t.Error(s, told(pi.Low), told(pi.High), den, low, high, before, e)
					}
					before = [2]int{low, high}
				}
			}
		}
	}
}

// P2.15: if a rule is exact for some ratio that is possible, it may have no error.
func TestExactCircles(t *testing.T) {
	count := 0
	for _, s := range []string{"3", "4", "22/7", "25/8", "19/6", "16/5", "2", "256/81", "(3+2r2)/2", "6-2r5"} {
		p := num(t, s)
		fourth, _ := surd.Quo(p, fraction(4, 1))
		side, e := surd.Root(fourth)
		radius, f := surd.Quo(fraction(1, 1), side)
		if e != api.OK || f != api.OK {
			t.Fatal(s, e, f)
		}
		for _, pi := range append(ratios(t), api.Between{Low: p, High: p}) {
			a, _ := surd.Compare(pi.Low, p)
			b, _ := surd.Compare(p, pi.High)
			for _, den := range []int{1, 1000, api.MaxFine} {
				low, high, e := Circling(radius, pi, den)
				if a <= 0 && b <= 0 && e == api.OK && (low > 0 || high < 0) {
					t.Error("Circling", s, told(pi.Low), told(pi.High), den, low, high)
				}
				least, most, f := Squaring(side, pi, den)
				if a <= 0 && b <= 0 && f == api.OK && (least > 0 || most < 0) {
					t.Error("Squaring", s, told(pi.Low), told(pi.High), den, least, most)
				}
				if a == 0 && b == 0 && e == api.OK && f == api.OK {
					count++
					if low != 0 || high != 0 || least != 0 || most != 0 {
						t.Error("exact", s, den, low, high, least, most)
					}
				}
			}
		}
	}
	if count < 24 {
		t.Error("only so many were tried:", count)
	}
}

// P2.11: which of two errors is surely less.
func TestNearer(t *testing.T) {
	const most = 100000000000000
	for _, c := range []struct {
		a, b [2]int
		want int
		e    api.Errno
	}{
		{[2]int{170, 177}, [2]int{-441, -434}, -1, api.OK},
		{[2]int{-441, -434}, [2]int{170, 177}, 1, api.OK},
		{[2]int{-3, 3}, [2]int{3, 9}, 0, api.OK},
		{[2]int{-3, 2}, [2]int{4, 9}, -1, api.OK},
		{[2]int{5, 5}, [2]int{-5, -5}, 0, api.OK},
		{[2]int{5, 5}, [2]int{-6, -6}, -1, api.OK},
		{[2]int{-9, 1}, [2]int{-5, 5}, 0, api.OK},
		{[2]int{0, 0}, [2]int{0, 0}, 0, api.OK},
		{[2]int{0, 0}, [2]int{1, 1}, -1, api.OK},
		{[2]int{-most, -most}, [2]int{most, most}, 0, api.OK},
		{[2]int{-most, most}, [2]int{-most, most}, 0, api.OK},
		{[2]int{most - 1, most - 1}, [2]int{-most, -most}, -1, api.OK},
		{[2]int{2, 1}, [2]int{0, 0}, 0, api.ErrArg},
		{[2]int{0, 0}, [2]int{-1, -2}, 0, api.ErrArg},
		{[2]int{0, most + 1}, [2]int{0, 0}, 0, api.ErrArg},
		{[2]int{0, 0}, [2]int{0, most + 1}, 0, api.ErrArg},
		{[2]int{-most - 1, 0}, [2]int{0, 0}, 0, api.ErrArg},
		{[2]int{0, 0}, [2]int{-most - 1, 0}, 0, api.ErrArg},
		{[2]int{most + 1, most + 1}, [2]int{0, 0}, 0, api.ErrArg},
		{[2]int{-most - 1, -most - 1}, [2]int{0, 0}, 0, api.ErrArg},
		{[2]int{math.MinInt, math.MaxInt}, [2]int{0, 0}, 0, api.ErrArg},
		{[2]int{0, 0}, [2]int{math.MinInt, math.MinInt}, 0, api.ErrArg},
	} {
		if n, e := Nearer(c.a, c.b); n != c.want || e != c.e {
			t.Error(c, n, e)
		}
	}
}

// P2.11: for all small errors, the numbers between them decide.
func TestNearerOfAllSmall(t *testing.T) {
	var spreads [][2]int
	for low := -4; low <= 4; low++ {
		for high := low; high <= 4; high++ {
			spreads = append(spreads, [2]int{low, high})
		}
	}
	surelyLess := func(a, b [2]int) bool {
		for x := a[0]; x <= a[1]; x++ {
			for y := b[0]; y <= b[1]; y++ {
				if max(x, -x) >= max(y, -y) {
					return false
				}
			}
		}
		return true
	}
	for _, a := range spreads {
		for _, b := range spreads {
			want := 0
			if surelyLess(a, b) {
				want = -1
			} else if surelyLess(b, a) {
				want = 1
			}
			if n, e := Nearer(a, b); n != want || e != api.OK {
				t.Error(a, b, n, e)
			}
		}
	}
}
