package surd

import (
	"math"
	"testing"

	"chiti/api"
)

// P1.1: what a valid number is.
func TestCheck(t *testing.T) {
	valid := []api.Number{
		{Den: 1},
		{Den: 1, Terms: []api.Term{}},
		{Den: 1, Terms: terms(1, 1)},
		{Den: 100000, Terms: terms(1, 1)},
		{Den: 99999, Terms: terms(-100000, 1)},
		{Den: 1, Terms: terms(100000, 997)},
		{Den: 3, Terms: terms(3, 1, -6, 2, 4, 3)},
		{Den: 2, Terms: terms(2, 2, 4, 3, 6, 5, 7, 998)},
	}
	for i, x := range valid {
		if e := Check(x); e != api.OK {
			t.Error("valid", i, x, e)
		}
	}
	for i, x := range invalidNumbers() {
		if e := Check(x); e != api.ErrArg {
			t.Error("invalid", i, x, e)
		}
	}
}

func invalidNumbers() []api.Number {
	return []api.Number{
		{},
		{Den: 0, Terms: terms(1, 1)},
		{Den: -1},
		{Den: 2},
		{Den: 100000},
		{Den: 100001, Terms: terms(1, 1)},
		{Den: math.MinInt, Terms: terms(1, 1)},
		{Den: math.MaxInt, Terms: terms(1, 1)},
		{Den: 1, Terms: terms(1, 1, 1, 2, 1, 3, 1, 5, 1, 6)},
		{Den: 1, Terms: make([]api.Term, 100)},
		{Den: 1, Terms: terms(1, 3, 1, 2)},
		{Den: 1, Terms: terms(1, 2, 1, 2)},
		{Den: 1, Terms: terms(1, 0)},
		{Den: 1, Terms: terms(1, -1)},
		{Den: 1, Terms: terms(1, 1001)},
		{Den: 1, Terms: terms(1, 1000)},
		{Den: 1, Terms: terms(1, 4)},
		{Den: 1, Terms: terms(1, 961)},
		{Den: 1, Terms: terms(1, 2, 1, 50)},
		{Den: 1, Terms: terms(1, math.MinInt)},
		{Den: 1, Terms: terms(1, math.MaxInt)},
		{Den: 1, Terms: terms(0, 1)},
		{Den: 1, Terms: terms(1, 1, 0, 2)},
		{Den: 1, Terms: terms(100001, 1)},
		{Den: 1, Terms: terms(-100001, 1)},
		{Den: 1, Terms: terms(math.MinInt, 1)},
		{Den: 1, Terms: terms(math.MaxInt, 1)},
		{Den: 2, Terms: terms(4, 1)},
		{Den: 6, Terms: terms(3, 1, -9, 2)},
	}
}

// P1.1: an invalid number is the first error, wherever it stands and whatever else is wrong.
func TestInvalidNumbersFirst(t *testing.T) {
	good := []api.Number{{Den: 1}, {Den: 1, Terms: terms(-1, 1)}, {Den: 1, Terms: terms(1, 1, 1, 2, 1, 3)}}
	pairs := []func(x, y api.Number) (api.Number, api.Errno){Add, Sub, Mul, Quo}
	for i, bad := range invalidNumbers() {
		for _, other := range good {
			for k, f := range pairs {
				x, e := f(bad, other)
				y, g := f(other, bad)
				if e != api.ErrArg || g != api.ErrArg || !isZero(x) || !isZero(y) {
					t.Error("pair", i, k, x, e, y, g)
				}
			}
			n, e := Compare(bad, other)
			m, f := Compare(other, bad)
			if n != 0 || m != 0 || e != api.ErrArg || f != api.ErrArg {
				t.Error("Compare", i, n, e, m, f)
			}
		}
		if x, e := Root(bad); !isZero(x) || e != api.ErrArg {
			t.Error("Root", i, x, e)
		}
		if n, e := Sign(bad); n != 0 || e != api.ErrArg {
			t.Error("Sign", i, n, e)
		}
		if n, e := Floor(bad); n != 0 || e != api.ErrArg {
			t.Error("Floor", i, n, e)
		}
		for _, den := range []int{0, 1, api.MaxFine + 1} {
			if low, high, e := Bounds(bad, den); low != 0 || high != 0 || e != api.ErrArg {
				t.Error("Bounds", i, den, low, high, e)
			}
		}
		if s, e := Format(bad); s != "" || e != api.ErrArg {
			t.Error("Format", i, s, e)
		}
	}
}

// P1.1: Make brings parts into the form of a number.
func TestMake(t *testing.T) {
	full := terms(1, 1, 1, 2, 1, 3, 1, 5)
	for i, c := range []struct {
		den   int
		parts []api.Term
		want  api.Number
	}{
		{6, terms(3, 1, 2, 8, 1, 1), api.Number{Den: 3, Terms: terms(2, 1, 2, 2)}},
		{1, nil, api.Number{Den: 1}},
		{100000, nil, api.Number{Den: 1}},
		{7, []api.Term{}, api.Number{Den: 1}},
		{7, terms(5, 0), api.Number{Den: 1}},
		{7, terms(0, 1000), api.Number{Den: 1}},
		{7, terms(1, 12, -2, 3), api.Number{Den: 1}},
		{1, terms(1, 1000), api.Number{Den: 1, Terms: terms(10, 10)}},
		{1, terms(1, 961), api.Number{Den: 1, Terms: terms(31, 1)}},
		{1, terms(1, 720), api.Number{Den: 1, Terms: terms(12, 5)}},
		{1, terms(1, 997), api.Number{Den: 1, Terms: terms(1, 997)}},
		{100000, terms(-100000, 1), api.Number{Den: 1, Terms: terms(-1, 1)}},
		{2, terms(1, 5, 1, 3, 1, 2), api.Number{Den: 2, Terms: terms(1, 2, 1, 3, 1, 5)}},
		{4, terms(6, 1, 10, 2), api.Number{Den: 2, Terms: terms(3, 1, 5, 2)}},
		{31, terms(100000, 961), api.Number{Den: 1, Terms: terms(100000, 1)}},
		{1, terms(100000, 1, 100000, 1, -100000, 1), api.Number{Den: 1, Terms: terms(100000, 1)}},
		{1, append(terms(1, 7, -1, 7), full...), api.Number{Den: 1, Terms: full}},
		{1, terms(1, 1, 1, 1, 1, 1, 1, 1, 1, 1, 1, 1, 1, 1, 1, 1, 1, 1, 1, 1, 1, 1, 1, 1, 1, 1, 1, 1, 1, 1, 1, 1), api.Number{Den: 1, Terms: terms(16, 1)}},
	} {
		x, e := Make(c.den, c.parts)
		if e != api.OK || !same(x, c.want) || Check(x) != api.OK {
			t.Error(i, x, e)
		}
	}
}

// P1.1: the errors of Make, and their order.
func TestMakeErrors(t *testing.T) {
	for i, c := range []struct {
		den   int
		parts []api.Term
		e     api.Errno
	}{
		{1, make([]api.Term, 17), api.ErrLong},
		{0, make([]api.Term, 17), api.ErrLong},
		{1, append(terms(100001, 1001), make([]api.Term, 16)...), api.ErrLong},
		{0, nil, api.ErrArg},
		{-1, terms(1, 1), api.ErrArg},
		{100001, terms(1, 1), api.ErrArg},
		{math.MinInt, nil, api.ErrArg},
		{math.MaxInt, nil, api.ErrArg},
		{1, terms(1, -1), api.ErrArg},
		{1, terms(0, -1), api.ErrArg},
		{1, terms(1, 1001), api.ErrArg},
		{1, terms(1, math.MinInt), api.ErrArg},
		{1, terms(100001, 1), api.ErrArg},
		{1, terms(-100001, 1), api.ErrArg},
		{1, terms(100001, 0), api.ErrArg},
		{1, terms(math.MinInt, 1), api.ErrArg},
		{1, terms(1, 1, 1, 2, 1, 3, 1, 5, 1, 7, 100001, 1), api.ErrArg},
		{1, terms(100000, 4, 100000, 4, 1, 1001), api.ErrArg},
		{1, terms(1, 1, 1, 2, 1, 3, 1, 5, 1, 7), api.ErrFull},
		{1, terms(100000, 4, 1, 2, 1, 3, 1, 5, 1, 7), api.ErrFull},
		{1, terms(100000, 1, 1, 1), api.ErrOver},
		{1, terms(-100000, 1, -1, 1), api.ErrOver},
		{1, terms(50001, 4), api.ErrOver},
		{3, terms(100000, 4), api.ErrOver},
	} {
		if x, e := Make(c.den, c.parts); e != c.e || !isZero(x) {
			t.Error(i, x, e, "instead of", c.e)
		}
	}
}

// P1.1: Make is exact: its value is that of the parts.
func TestMakeValues(t *testing.T) {
	next := pseudo()
	for range 2000 {
		den := next(1000) + 1
		var parts []api.Term
		for range next(6) {
			parts = append(parts, api.Term{Coef: next(2001) - 1000, Root: next(1001)})
		}
		x, e := Make(den, parts)
		if e != api.OK {
			continue
		}
		if Check(x) != api.OK || !near(approximate(x), approximate(api.Number{Den: den, Terms: parts})) {
			t.Error(den, parts, x)
		}
	}
}
