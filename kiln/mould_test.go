package kiln_test

import (
	"math/big"
	"testing"

	"chiti/api"
	"chiti/kiln"
)

// P8.1: the least spread with integers as ends.
func TestShrunk(t *testing.T) {
	for i, c := range []struct {
		side int
		c    api.Clay
		want api.Spread
	}{
		{1000, clay(500, 600, 100, 200), spread(921, 941)},
		{1000, clay(500, 600, 0, 0), spread(940, 950)},
		{1000, clay(0, 0, 100, 200), spread(980, 990)},
		{1000, clay(0, 0, 0, 0), spread(1000, 1000)},
		{1000, clay(0, 1, 0, 0), spread(999, 1000)},
		{1000, clay(1, 1, 0, 0), spread(999, 1000)},
		{1000, clay(0, 0, 0, 10), spread(999, 1000)},
		{1000, clay(0, 0, 0, 11), spread(998, 1000)},
		{1000, clay(0, 0, 10, 10), spread(999, 999)},
		{100, clay(1000, 1000, 1000, 1000), spread(81, 81)},
		{101, clay(1000, 1000, 1000, 1000), spread(81, 82)},
		{100, clay(1000, 1000, 1001, 1001), spread(80, 81)},
		{100, clay(0, 5000, 0, 5000), spread(25, 100)},
		{1, clay(0, 0, 0, 0), spread(1, 1)},
		{1, clay(1, 9999, 0, 9999), spread(0, 1)},
		{1, clay(9999, 9999, 9999, 9999), spread(0, 1)},
		{1000000, clay(0, 0, 0, 0), spread(1000000, 1000000)},
		{1000000, clay(9999, 9999, 9999, 9999), spread(0, 1)},
		{1000000, clay(0, 9999, 0, 9999), spread(0, 1000000)},
		{1000000, clay(9999, 9999, 0, 0), spread(100, 100)},
		{1000000, clay(0, 0, 9998, 9999), spread(100, 200)},
		{999999, clay(0, 1, 0, 1), spread(999799, 999999)},
	} {
		if s, e := kiln.Shrunk(c.side, c.c); s != c.want || e != api.OK {
			t.Error(i, c.side, c.c, s, e)
		}
	}
}

// P8.1, P8.2: the clay is looked at first, each of its numbers for itself, and then the other argument.
func TestClays(t *testing.T) {
	for i, c := range []struct {
		c  api.Clay
		ok bool
	}{
		{clay(0, 0, 0, 0), true},
		{clay(9999, 9999, 9999, 9999), true},
		{clay(0, 9999, 0, 9999), true},
		{clay(7, 7, 3, 4), true},
		{clay(-1, 0, 0, 0), false},
		{clay(0, 0, -1, 0), false},
		{clay(-1, -1, 0, 0), false},
		{clay(0, 0, -1, -1), false},
		{clay(0, 10000, 0, 0), false},
		{clay(0, 0, 0, 10000), false},
		{clay(10000, 10000, 0, 0), false},
		{clay(0, 0, 10000, 10000), false},
		{clay(1, 0, 0, 0), false},
		{clay(0, 0, 1, 0), false},
		{clay(9999, 9998, 0, 0), false},
		{clay(0, 0, 9999, 0), false},
	} {
		// What the error of the other argument is, behind that of the clay.
		for other, e := range map[int]api.Errno{1: api.OK, 0: api.ErrRange, 1000001: api.ErrRange} {
			if s, f := kiln.Shrunk(other, c.c); c.ok && f != e || !c.ok && f != api.ErrArg || f != api.OK && s != spread(0, 0) {
				t.Error(i, other, c.c, s, f)
			}
		}
		for other, e := range map[int]api.Errno{1: api.OK, 0: api.ErrNone, -1: api.ErrRange, 1000001: api.ErrRange} {
			if s, f := kiln.Moulds(spread(0, other), c.c); c.ok && f != e || !c.ok && f != api.ErrArg || f != api.OK && s != spread(0, 0) {
				t.Error(i, other, c.c, s, f)
			}
		}
	}
}

// P8.1: sides from 1 to MaxMould.
func TestSides(t *testing.T) {
	for _, side := range extremes() {
		want := api.ErrRange
		if 1 <= side && side <= 1000000 {
			want = api.OK
		}
		s, e := kiln.Shrunk(side, clay(0, 0, 0, 0))
		if e != want || e == api.OK && s != spread(side, side) || e != api.OK && s != spread(0, 0) {
			t.Error(side, s, e)
		}
	}
}

// P8.1: the spread is that of the model, and all numbers of the clay give a side in it, also those that are not integers.
func TestShrunkByModel(t *testing.T) {
	next := pseudo()
	for range 20000 {
		side, c := 1+next([]int{1000000, 1000, 20}[next(3)]), someClay(next)
		s, e := kiln.Shrunk(side, c)
		if s != modelShrunk(side, c) || e != api.OK {
			t.Fatal(side, c, s, e)
		}
		between := func(s api.Spread) *big.Rat {
			part := fraction(next(8), 7)
			part.Mul(part, fraction(s.High-s.Low, 1))
			return part.Add(part, fraction(s.Low, 1))
		}
		x := modelSide(side, between(c.Dry), between(c.Fire))
		if x.Cmp(fraction(s.Low, 1)) < 0 || x.Cmp(fraction(s.High, 1)) > 0 {
			t.Fatal(side, c, s, x)
		}
	}
}

// P8.2: all sides whose Shrunk lies in what is wanted.
func TestMoulds(t *testing.T) {
	for i, c := range []struct {
		wanted api.Spread
		c      api.Clay
		want   api.Spread
		e      api.Errno
	}{
		{spread(900, 940), clay(500, 600, 100, 200), spread(977, 999), api.OK},
		{spread(921, 941), clay(500, 600, 100, 200), spread(1000, 1000), api.OK},
		{spread(921, 940), clay(500, 600, 100, 200), spread(0, 0), api.ErrNone},
		{spread(922, 941), clay(500, 600, 100, 200), spread(0, 0), api.ErrNone},
		{spread(900, 900), clay(1000, 1000, 0, 0), spread(1000, 1000), api.OK},
		{spread(900, 901), clay(1000, 1000, 0, 0), spread(1000, 1001), api.OK},
		{spread(901, 901), clay(1000, 1000, 0, 0), spread(0, 0), api.ErrNone},
		{spread(0, 1000000), clay(0, 0, 0, 0), spread(1, 1000000), api.OK},
		{spread(1000000, 1000000), clay(0, 0, 0, 0), spread(1000000, 1000000), api.OK},
		{spread(999999, 1000000), clay(1, 1, 0, 0), spread(0, 0), api.ErrNone},
		{spread(999900, 1000000), clay(1, 1, 0, 0), spread(1000000, 1000000), api.OK},
		{spread(0, 0), clay(0, 0, 0, 0), spread(0, 0), api.ErrNone},
		{spread(0, 0), clay(9999, 9999, 9999, 9999), spread(0, 0), api.ErrNone},
		{spread(0, 1), clay(9999, 9999, 9999, 9999), spread(1, 1000000), api.OK},
		{spread(1, 1), clay(9999, 9999, 9999, 9999), spread(0, 0), api.ErrNone},
		{spread(0, 1), clay(0, 0, 0, 0), spread(1, 1), api.OK},
		{spread(1, 1), clay(0, 0, 0, 0), spread(1, 1), api.OK},
		{spread(0, 1), clay(0, 9999, 0, 9999), spread(1, 1), api.OK},
		{spread(0, 7), clay(0, 9999, 0, 9999), spread(1, 7), api.OK},
		{spread(1, 1000000), clay(0, 9999, 0, 9999), spread(0, 0), api.ErrNone},
		{spread(50, 100), clay(9999, 9999, 0, 0), spread(500000, 1000000), api.OK},
		{spread(50, 99), clay(9999, 9999, 0, 0), spread(500000, 990000), api.OK},
		{spread(101, 200), clay(9999, 9999, 0, 0), spread(0, 0), api.ErrNone},
	} {
		if s, e := kiln.Moulds(c.wanted, c.c); s != c.want || e != c.e {
			t.Error(i, c.wanted, c.c, s, e)
		}
	}
}

// P8.2: what is wanted has its ends in order, from 0 to MaxMould.
func TestWanted(t *testing.T) {
	for _, low := range extremes() {
		for _, high := range extremes() {
			want := api.ErrRange
			switch {
			case high == 0 && low == 0:
				want = api.ErrNone
			case 0 <= low && low <= high && high <= 1000000:
				want = api.OK
			}
			s, e := kiln.Moulds(spread(low, high), clay(0, 0, 0, 0))
			if e != want || e == api.OK && s != spread(max(1, low), high) || e != api.OK && s != spread(0, 0) {
				t.Error(low, high, s, e)
			}
		}
	}
}

// fits reports whether a mould surely gives a side that is wanted.
func fits(side int, wanted api.Spread, c api.Clay) bool {
	s, e := kiln.Shrunk(side, c)
	return e == api.OK && wanted.Low <= s.Low && s.High <= wanted.High
}

// P8.2: the sides are those that are found when all of them are tried.
func TestMouldsByTrial(t *testing.T) {
	next := pseudo()
	found, none := 0, 0
	for range 60 {
		c, wanted := someClay(next), someSpread(next, []int{1000000, 1000, 10}[next(3)])
		if next(2) == 0 {
			wanted, _ = kiln.Shrunk(1+next(1000000), c)
		}
		var want api.Spread
		for side := 1; side <= 1000000; side++ {
			if fits(side, wanted, c) {
				if want.Low == 0 {
					want.Low = side
				}
				want.High = side
			}
		}
		s, e := kiln.Moulds(wanted, c)
		if s != want || (e == api.OK) != (want.Low > 0) || e != api.OK && e != api.ErrNone {
			t.Error(c, wanted, s, e, want)
		}
		if e == api.OK {
			found++
		} else {
			none++
		}
	}
	if found < 20 || none < 10 {
		t.Error("only so many were tried:", found, none)
	}
}

// P8.13: a greater mould gives no smaller brick; all sides of Moulds fit, those next to them do not.
func TestLawsOfMoulds(t *testing.T) {
	next := pseudo()
	tried := 0
	for range 20000 {
		c, side := someClay(next), 1+next(1000000)
		other := min(1000000, side+next(300))
		s, _ := kiln.Shrunk(side, c)
		greater, e := kiln.Shrunk(other, c)
		if greater.Low < s.Low || greater.High < s.High || e != api.OK {
			t.Error(c, side, other, s, greater)
		}
		wanted := spread(max(0, s.Low-next(4)), min(1000000, s.High+next(4)))
		moulds, e := kiln.Moulds(wanted, c)
		if e != api.OK || side < moulds.Low || side > moulds.High {
			t.Fatal(c, side, wanted, moulds, e)
		}
		tried++
		for _, inner := range []int{moulds.Low, moulds.High, moulds.Low + next(moulds.High-moulds.Low+1)} {
			if !fits(inner, wanted, c) {
				t.Error(c, wanted, moulds, inner)
			}
		}
		for _, outer := range []int{moulds.Low - 1, moulds.High + 1} {
			if fits(outer, wanted, c) {
				t.Error(c, wanted, moulds, outer)
			}
		}
	}
	if tried < 20000 {
		t.Error("only so many were tried:", tried)
	}
}
