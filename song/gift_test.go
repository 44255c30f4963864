package song_test

import (
	"slices"
	"testing"

	"chiti/api"
	"chiti/song"
)

// P10.6: cows that are shared, and the errors in their order.
func TestGifts(t *testing.T) {
	w := func(l ...int) []int { return l }
	for i, c := range []struct {
		cows    int
		weights []int
		want    []int
		e       api.Errno
	}{
		{100, w(12, 6, 4, 3), w(48, 24, 16, 12), api.OK}, {10, w(1, 1, 1), w(4, 3, 3), api.OK}, {11, w(1, 1, 1), w(4, 4, 3), api.OK}, {12, w(1, 1, 1), w(4, 4, 4), api.OK}, {2, w(1, 1, 1), w(1, 1, 0), api.OK},
		// The part that lost most is the second one, or the last one.
		{10, w(3, 3, 1), w(4, 4, 2), api.OK}, {10, w(1, 2), w(3, 7), api.OK}, {11, w(1, 2), w(4, 7), api.OK}, {3, w(5, 3, 4), w(1, 1, 1), api.OK}, {4, w(5, 3, 4), w(2, 1, 1), api.OK}, {7, w(3, 1, 3, 1), w(3, 1, 2, 1), api.OK}, {1, w(1, 2, 3), w(0, 0, 1), api.OK}, {1, w(3, 2, 3), w(1, 0, 0), api.OK}, {2, w(2, 3, 3), w(0, 1, 1), api.OK}, {5, w(1, 1, 4, 4), w(1, 0, 2, 2), api.OK},
		{0, w(1, 2), w(0, 0), api.OK}, {5, w(0, 7, 0), w(0, 5, 0), api.OK}, {5, w(0, 1, 1), w(0, 3, 2), api.OK}, {7, w(1), w(7), api.OK}, {1e9, w(1), w(1e9), api.OK}, {1e9, w(1000000), w(1e9), api.OK}, {1e9, w(1000000, 1000000, 1), w(499999750, 499999750, 500), api.OK}, {1e9, w(1000000, 0), w(1e9, 0), api.OK},
		{19, slices.Repeat(w(1), 20), append(slices.Repeat(w(1), 19), 0), api.OK}, {1e9, slices.Repeat(w(1000000), 20), slices.Repeat(w(5e7), 20), api.OK}, {39, slices.Repeat(w(1000000), 20), append(slices.Repeat(w(2), 19), 1), api.OK},
		{1, nil, nil, api.ErrArg}, {0, nil, nil, api.ErrArg}, {1, w(0), nil, api.ErrArg}, {0, w(0, 0), nil, api.ErrArg}, {1, w(-1, 2), nil, api.ErrArg}, {1, w(2, -1), nil, api.ErrArg}, {1, w(1, -1), nil, api.ErrArg}, {1, w(1000001), nil, api.ErrArg}, {1, w(1, 1000001), nil, api.ErrArg}, {1, w(1<<63-1, 1<<63-1), nil, api.ErrArg}, {1, w(-1 << 63), nil, api.ErrArg}, {1, slices.Repeat(w(0), 20), nil, api.ErrArg},
		{-1, w(1), nil, api.ErrRange}, {1e9 + 1, w(1), nil, api.ErrRange}, {-1 << 63, w(1), nil, api.ErrRange}, {1<<63 - 1, w(1), nil, api.ErrRange}, {-1, nil, nil, api.ErrRange}, {-1, w(-1), nil, api.ErrRange}, {1e9 + 1, w(0), nil, api.ErrRange},
		{1, slices.Repeat(w(1), 21), nil, api.ErrLong}, {-1, slices.Repeat(w(1), 21), nil, api.ErrLong}, {-1, make([]int, 21), nil, api.ErrLong}, {1, slices.Repeat(w(-1), 21), nil, api.ErrLong},
	} {
		l, e := song.Gifts(c.cows, c.weights)
		if !slices.Equal(l, c.want) || e != c.e || e != api.OK && l != nil {
			t.Error(i, c.cows, c.weights, l, e)
		}
	}
}

// P10.6, P10.15: as in the model; gifts add up to all cows, each is its part rounded down or up, and stays if all weights grow alike.
func TestEveryCow(t *testing.T) {
	next := pseudo()
	for range 4000 {
		cows := next([]int{30, 1000, 1e9 + 1}[next(3)])
		var weights, greater []int
		most := []int{4, 60, 1000}[next(3)]
		factor := 1 + next(api.MaxShareOf/most)
		all, sum := 0, 0
		for range 1 + next(20) {
			weight := next(most + 1)
			weights, greater = append(weights, weight), append(greater, weight*factor)
			all += weight
		}
		l, e := song.Gifts(cows, weights)
		if all == 0 {
			if e != api.ErrArg {
				t.Error(cows, weights, e)
			}
			continue
		}
		for i, n := range l {
			sum += n
			if low := modelFloor(ratio(cows*weights[i], all)); n < low || n > low+1 || n > low && low*all == cows*weights[i] {
				t.Error(cows, weights, l, i)
			}
		}
		again, f := song.Gifts(cows, greater)
		if !slices.Equal(l, modelGifts(cows, weights)) || sum != cows || !slices.Equal(l, again) || e != api.OK || f != api.OK {
			t.Error(cows, weights, factor, l, again, e, f)
		}
	}
}

// P10.7: the least herd of which all portions are whole.
func TestWhole(t *testing.T) {
	for i, c := range []struct {
		l    []api.Portion
		want int
		e    api.Errno
	}{
		{nil, 1, api.OK}, {portions(1, 1), 1, api.OK}, {portions(1, 2, 1, 3, 1, 9), 18, api.OK}, {portions(2, 4), 2, api.OK}, {portions(7, 7), 1, api.OK}, {portions(4, 6), 3, api.OK}, {portions(1, 4, 1, 6), 12, api.OK}, {portions(3, 6, 2, 3), 6, api.OK}, {portions(1, 1000000), 1000000, api.OK}, {portions(999999, 1000000), 1000000, api.OK}, {portions(500000, 1000000), 2, api.OK}, {portions(1000000, 1000000), 1, api.OK},
		{slices.Repeat(portions(1, 999983), 20), 999983, api.OK}, {portions(1, 2997, 1, 333667), 999999999, api.OK}, {portions(1, 19019, 1, 52579), 0, api.ErrOver}, {portions(1, 1000, 1, 999999), 999999000, api.OK}, {portions(1, 999983, 1, 999979), 0, api.ErrOver}, {portions(1, 1000, 1, 999999, 1, 11), 999999000, api.OK}, {portions(1, 1000, 1, 999999, 1, 16), 0, api.ErrOver}, {portions(1, 524288, 1, 3125), 0, api.ErrOver}, {portions(3125, 524288*1, 1, 1), 524288, api.OK},
		{portions(1, 999983, 1, 999979, 1, 999961, 1, 999959, 1, 999953, 1, 999931, 1, 999917, 1, 999907, 1, 999883, 1, 999863), 0, api.ErrOver},
		{portions(0, 1), 0, api.ErrArg}, {portions(2, 1), 0, api.ErrArg}, {portions(1, 0), 0, api.ErrArg}, {portions(0, 0), 0, api.ErrArg}, {portions(-1, 2), 0, api.ErrArg}, {portions(1, -2), 0, api.ErrArg}, {portions(-2, -1), 0, api.ErrArg}, {portions(-1, -1), 0, api.ErrArg}, {portions(1, 1000001), 0, api.ErrArg}, {portions(1000001, 1000001), 0, api.ErrArg}, {portions(1, 2, 0, 1), 0, api.ErrArg}, {portions(3, 2, 1, 1), 0, api.ErrArg}, {portions(-1<<63, 1<<63-1), 0, api.ErrArg}, {portions(1, 1<<63-1), 0, api.ErrArg}, {portions(1, 999983, 1, 999979, 1, 0), 0, api.ErrArg},
		{slices.Repeat(portions(1, 2), 20), 2, api.OK}, {slices.Repeat(portions(1, 2), 21), 0, api.ErrLong}, {make([]api.Portion, 21), 0, api.ErrLong}, {make([]api.Portion, 20), 0, api.ErrArg},
	} {
		if n, e := song.Whole(c.l); n != c.want || e != c.e {
			t.Error(i, c.l, n, e)
		}
	}
}

// P10.8: cows that are borrowed, and the errors in their order.
func TestBorrow(t *testing.T) {
	g := func(l ...int) []int { return l }
	half := portions(1, 2)
	for i, c := range []struct {
		cows  int
		l     []api.Portion
		want  int
		gifts []int
		e     api.Errno
	}{
		{17, portions(1, 2, 1, 3, 1, 9), 1, g(9, 6, 2), api.OK}, {34, portions(1, 2, 1, 3, 1, 9), 2, g(18, 12, 4), api.OK}, {16, portions(1, 2, 1, 3, 1, 9), 0, nil, api.ErrNone}, {18, portions(1, 2, 1, 3, 1, 9), 0, nil, api.ErrNone}, {6, portions(1, 2, 1, 2), 0, g(3, 3), api.OK}, {7, portions(1, 2, 1, 2), 0, nil, api.ErrNone}, {1, portions(2, 4), 1, g(1), api.OK}, {1, portions(1, 1), 0, g(1), api.OK}, {9, portions(3, 3), 0, g(9), api.OK}, {11, portions(1, 2, 1, 4, 1, 6), 1, g(6, 3, 2), api.OK}, {3, portions(1, 4, 2, 4), 1, g(1, 2), api.OK},
		// Portions that are more than the whole herd.
		{3, portions(1, 1, 1, 2), 0, nil, api.ErrNone}, {6, portions(1, 1, 1, 2), 0, nil, api.ErrNone}, {0, portions(1, 1, 1, 2), 0, g(0, 0), api.OK}, {2, portions(1, 1, 1, 1), 0, nil, api.ErrNone}, {0, portions(1, 1, 1, 1), 0, g(0, 0), api.OK},
		{0, half, 0, g(0), api.OK}, {0, nil, 0, nil, api.OK}, {1, nil, 0, nil, api.ErrNone}, {5, nil, 0, nil, api.ErrNone}, {1e9, nil, 0, nil, api.ErrNone},
		// As many as can be borrowed.
		{1e9, half, 1e9, g(1e9), api.OK}, {1e9 - 1, half, 1e9 - 1, g(1e9 - 1), api.OK}, {1000, portions(1, 1000000), 999999000, g(1000), api.OK}, {1001, portions(1, 1000000), 0, nil, api.ErrNone}, {2000, portions(1, 1000000), 0, nil, api.ErrNone}, {499999 * 1999, portions(499999, 1000000), 500001 * 1999, g(499999 * 1999), api.OK}, {499999 * 2000, portions(499999, 1000000), 0, nil, api.ErrNone}, {19019 * 47421, portions(47421, 100000), 0, nil, api.ErrNone}, {19018 * 47421, portions(47421, 100000), 19018 * 52579, []int{19018 * 47421}, api.OK},
		{5e8, portions(1, 3), 1e9, g(5e8), api.OK}, {5e8 + 1, portions(1, 3), 0, nil, api.ErrNone}, {1e9, portions(1, 1), 0, g(1e9), api.OK},
		// A herd of which all portions are whole can be greater than Whole tells.
		{655893663, portions(3, 524288, 1251, 3125), 982506337, g(9375, 655884288), api.OK}, {655893662, portions(3, 524288, 1251, 3125), 0, nil, api.ErrNone}, {655893664, portions(3, 524288, 1251, 3125), 0, nil, api.ErrNone}, {9375 + 524288*1219, portions(3, 524288, 1219, 3125), 1638400000 - 9375 - 524288*1219, g(9375, 524288*1219), api.OK}, {3125 + 524288*1217, portions(1, 524288, 1217, 3125), 0, nil, api.ErrNone}, {655893663 + 234057142, portions(3, 524288, 1251, 3125, 1, 7), 0, nil, api.ErrNone}, {0, portions(1, 999983, 1, 999979), 0, g(0, 0), api.OK}, {1e9, portions(1, 999983, 1, 999979), 0, nil, api.ErrNone}, {1999962, portions(1, 999983, 1, 999979), 0, nil, api.ErrNone},
		{0, portions(1, 999983, 1, 999979, 1, 999961, 1, 999959, 1, 999953, 1, 999931, 1, 999917, 1, 999907, 1, 999883, 1, 999863), 0, make([]int, 10), api.OK}, {1, portions(1, 999983, 1, 999979, 1, 999961, 1, 999959, 1, 999953, 1, 999931, 1, 999917, 1, 999907, 1, 999883, 1, 999863), 0, nil, api.ErrNone},
		{20, slices.Repeat(portions(1, 20), 20), 0, slices.Repeat(g(1), 20), api.OK}, {20, slices.Repeat(portions(1, 40), 20), 20, slices.Repeat(g(1), 20), api.OK},
		{-1, half, 0, nil, api.ErrRange}, {1e9 + 1, half, 0, nil, api.ErrRange}, {-1, nil, 0, nil, api.ErrRange}, {1e9 + 1, nil, 0, nil, api.ErrRange}, {-1 << 63, half, 0, nil, api.ErrRange}, {1<<63 - 1, half, 0, nil, api.ErrRange}, {-1, portions(1, 999983, 1, 999979), 0, nil, api.ErrRange},
		{-1, portions(0, 1), 0, nil, api.ErrArg}, {1, portions(2, 1), 0, nil, api.ErrArg}, {0, portions(1, 2, 1, 1000001), 0, nil, api.ErrArg}, {0, portions(0, 0), 0, nil, api.ErrArg}, {1e9 + 1, portions(1, 0), 0, nil, api.ErrArg},
		{-1, make([]api.Portion, 21), 0, nil, api.ErrLong}, {20, slices.Repeat(portions(1, 21), 21), 0, nil, api.ErrLong},
	} {
		b, gifts, e := song.Borrow(c.cows, c.l)
		if b != c.want || !slices.Equal(gifts, c.gifts) || e != c.e || e != api.OK && gifts != nil {
			t.Error(i, c.cows, c.l, b, gifts, e)
		}
	}
}

// P10.7, P10.8: portions of which only herds are whole that are too great for an int.
func TestGreatHerds(t *testing.T) {
	primes := []int{999983, 999979, 999961, 999959, 999953, 999931, 999917, 999907, 999883, 999863, 999853, 999809, 999773, 999769, 999763, 999749, 999727, 999721, 999683, 999671}
	var l []api.Portion
	for _, p := range primes {
		l = append(l, portions(1, p)...)
		if len(l) == 1 {
			continue
		}
		herd, e := song.Whole(l)
		b, gifts, f := song.Borrow(1, l)
		none, nothing, g := song.Borrow(0, l)
		if herd != 0 || e != api.ErrOver || b != 0 || gifts != nil || f != api.ErrNone || none != 0 || !slices.Equal(nothing, make([]int, len(l))) || g != api.OK {
			t.Error(len(l), herd, e, b, gifts, f, none, nothing, g)
		}
	}
}

// P10.7, P10.8, P10.15: as in the model, which tries all numbers; portions are whole, and gifts add up to all cows.
func TestPortionsAsModel(t *testing.T) {
	next := pseudo()
	done, borrowed := 0, 0
	for range 1000 {
		var l []api.Portion
		sum := ratio(0, 1)
		for range 1 + next(4) {
			den := 1 + next(10)
			p := api.Portion{Num: 1 + next(den), Den: den}
			if next(3) > 0 {
				p.Num = 1 + next(p.Num)
			}
			l = append(l, p)
			sum.Add(sum, ratio(p.Num, p.Den))
		}
		herd, e := song.Whole(l)
		if herd != modelWhole(l, 2520) || e != api.OK {
			t.Error(l, herd, e)
		}
		// Often the portions of some whole herd are all cows together.
		cows := next(60)
		if _, _, left := modelPortions(herd, l); next(2) == 0 && left >= 0 && herd < 300 {
			cows = herd - left
		}
		b, gifts, e := song.Borrow(cows, l)
		want, wanted := modelBorrow(cows, l, 10*cows)
		if want < 0 && (e != api.ErrNone || gifts != nil || b != 0) || want >= 0 && (b != want || !slices.Equal(gifts, wanted) || e != api.OK) {
			t.Error(cows, l, b, gifts, e, want, wanted)
		}
		if e != api.OK {
			continue
		}
		done++
		borrowed += min(1, b)
		_, areWhole, _ := modelPortions(cows+b, l)
		all := 0
		for _, n := range gifts {
			all += n
		}
		if !areWhole || all != cows {
			t.Error(cows, l, b, gifts)
		}
	}
	if min(done, borrowed) < 100 {
		t.Error("only so many of a sort:", done, borrowed)
	}
}
