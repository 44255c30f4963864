package surd

import (
	"math"
	"slices"
	"testing"

	"chiti/api"
)

// wild returns numbers of every kind, most of them invalid.
func wild() []api.Number {
	extremes := []int{math.MinInt, math.MinInt + 1, -100001, -100000, -1, 0, 1, 2, 1000, 1001, 100000, 100001, 1 << 32, math.MaxInt}
	l := append(invalidNumbers(), generated(10, 4, api.MaxCoef)...)
	for _, n := range extremes {
		for _, m := range extremes {
			l = append(l, api.Number{Den: n, Terms: terms(m, 1)}, api.Number{Den: 1, Terms: terms(n, m)}, api.Number{Den: 3, Terms: terms(1, 1, n, m)})
		}
	}
	return append(l, api.Number{Den: 1, Terms: make([]api.Term, 1<<16)})
}

// P1: no function panics, whatever it is given, and with an error every other result is zero.
func TestWildArguments(t *testing.T) {
	numbers := wild()
	for i, x := range numbers {
		for _, y := range numbers[i%7:] {
			for _, o := range operations() {
				if z, e := o.of(x, y); e != api.OK && !isZero(z) || e == api.OK && Check(z) != api.OK {
					t.Fatal(o.name, x, y, z, e)
				}
			}
			if n, e := Compare(x, y); e != api.OK && n != 0 {
				t.Fatal("Compare", x, y, n, e)
			}
		}
		if z, e := Root(x); e != api.OK && !isZero(z) || e == api.OK && Check(z) != api.OK {
			t.Error("Root", x, z, e)
		}
		if z, e := Make(x.Den, x.Terms); e != api.OK && !isZero(z) || e == api.OK && Check(z) != api.OK {
			t.Error("Make", x, z, e)
		}
		for _, den := range []int{math.MinInt, -1, 0, 1, 1000000000, 1000000001, math.MaxInt} {
			if low, high, e := Bounds(x, den); e != api.OK && (low != 0 || high != 0) {
				t.Error("Bounds", x, den, low, high, e)
			}
		}
		if s, e := Format(x); e != api.OK && s != "" {
			t.Error("Format", x, s, e)
		}
	}
}

// R3: a nil list and an empty one are the same.
func TestNilAndEmpty(t *testing.T) {
	absent, empty := api.Number{Den: 1}, api.Number{Den: 1, Terms: []api.Term{}}
	if n, e := Compare(absent, empty); n != 0 || e != api.OK {
		t.Error(n, e)
	}
	if s, e := Format(empty); s != "0" || e != api.OK {
		t.Error(s, e)
	}
	if x, e := Root(empty); !same(x, absent) || e != api.OK {
		t.Error(x, e)
	}
	if _, e := Quo(absent, empty); e != api.ErrNone {
		t.Error(e)
	}
	if x, e := Make(5, []api.Term{}); !same(x, absent) || e != api.OK {
		t.Error(x, e)
	}
}

func copied(x api.Number) api.Number {
	return api.Number{Den: x.Den, Terms: slices.Clone(x.Terms)}
}

// R4: no call changes its arguments, and no result shares memory with them.
func TestMemory(t *testing.T) {
	numbers := nums(t, "0", "1", "4", "r2", "1+r2", "1-r2", "3+2r2", "5-2r6", "(1+r5)/2", "1+r2+r3", "-r2/3")
	calls := []func(x, y api.Number) api.Number{
		func(x, y api.Number) api.Number { z, _ := Add(x, y); return z },
		func(x, y api.Number) api.Number { z, _ := Sub(x, y); return z },
		func(x, y api.Number) api.Number { z, _ := Mul(x, y); return z },
		func(x, y api.Number) api.Number { z, _ := Quo(x, y); return z },
		func(x, _ api.Number) api.Number { z, _ := Root(x); return z },
		func(x, _ api.Number) api.Number { z, _ := Make(x.Den, x.Terms); return z },
		func(x, y api.Number) api.Number { Sign(x); Compare(x, y); Bounds(x, 7); Format(x); return api.Number{} },
	}
	for i, call := range calls {
		for _, x := range numbers {
			for _, y := range numbers {
				a, b := copied(x), copied(y)
				z := call(a, b)
				for k := range z.Terms {
					z.Terms[k] = api.Term{Coef: -9, Root: -9}
				}
				if !same(a, x) || !same(b, y) {
					t.Error(i, x, y, a, b)
				}
			}
		}
	}
}

// R4: Make does not put its parts in order where they stand.
func TestMakeKeepsParts(t *testing.T) {
	parts := terms(1, 8, 3, 5, -2, 12, 0, 7, 4, 1)
	before := slices.Clone(parts)
	if _, e := Make(6, parts); e != api.OK || !slices.Equal(parts, before) {
		t.Error(parts, e)
	}
}
