package song_test

import (
	"slices"
	"testing"

	"chiti/api"
	"chiti/song"
)

// P10.9: what a moon can be; all functions with one have this error first.
func TestCheckMoon(t *testing.T) {
	for i, c := range []struct {
		m  api.Moon
		ok bool
	}{
		{moon(59, 60, 0), true}, {api.Moon{}, false}, {moon(1, 1, 0), true}, {moon(2, 1, 0), true}, {moon(3, 1, 0), false}, {moon(0, 1, 0), false}, {moon(1, 2, 0), true}, {moon(1, 3, 0), false}, {moon(2, 3, 0), true}, {moon(6, 3, 0), true}, {moon(7, 3, 0), false}, {moon(1, 2, 1), true}, {moon(2, 4, 0), true}, {moon(1, 4, 0), false}, {moon(2, 5, 0), false}, {moon(3, 5, 0), true}, {moon(0, 0, 0), false}, {moon(1, 0, 0), false}, {moon(-1, -1, 0), false}, {moon(-1, -1, -2), false}, {moon(1, -1, -2), false},
		{moon(100000, 100000, 99999), true}, {moon(200000, 100000, 0), true}, {moon(200001, 100000, 0), false}, {moon(50000, 100000, 0), true}, {moon(49999, 100000, 0), false}, {moon(50000, 99999, 0), true}, {moon(49999, 99999, 0), false}, {moon(100001, 100001, 0), false}, {moon(60000, 100001, 0), false}, {moon(100000, 100001, 5), false},
		{moon(59, 60, -1), false}, {moon(59, 60, 59), true}, {moon(59, 60, 60), false}, {moon(1, 1, 1), false}, {moon(1, 1, -1), false}, {moon(60, 60, 61), false},
		{moon(-1, 1, 0), false}, {moon(-59, 60, 0), false}, {moon(1<<63-1, 60, 0), false}, {moon(-1<<63, 60, 0), false}, {moon(1<<62+50, 60, 0), false}, {moon(-1<<62, 60, 0), false}, {moon(1<<63-1, 1<<63-1, 0), false}, {moon(59, 60, 1<<63-1), false}, {moon(59, 60, -1<<63), false}, {moon(0, -1<<63, 0), false}, {moon(1<<62, -1<<63, -1), false},
	} {
		e := song.CheckMoon(c.m)
		if (e == api.OK) != c.ok || e != api.OK && e != api.ErrArg {
			t.Error(i, c.m, e)
		}
		d, number, f := song.At(c.m, -1)
		day, how, g := song.Falls(c.m, -1)
		next, h := song.Next(c.m, -1, false, 0)
		never, twice, k := song.Odd(c.m, 1, 0)
		want := map[bool]api.Errno{true: api.ErrRange, false: api.ErrArg}[c.ok]
		if f != want || g != want || h != want || k != want || d != (api.LunarDay{}) || number != 0 || day != 0 || how != 0 || next != 0 || never != nil || twice != nil {
			t.Error(i, c.m, d, number, f, day, how, g, next, h, never, twice, k)
		}
	}
}

// P10.9: which lunar day is current.
func TestAt(t *testing.T) {
	m, slow, late := moon(59, 60, 0), moon(3, 2, 1), moon(60, 60, 59)
	d := func(month int, dark bool, number int) api.LunarDay {
		return api.LunarDay{Month: month, Dark: dark, Number: number}
	}
	for i, c := range []struct {
		m      api.Moon
		day    int
		d      api.LunarDay
		number int
		e      api.Errno
	}{
		{m, 0, d(0, false, 1), 0, api.OK}, {m, 1, d(0, false, 2), 1, api.OK}, {m, 13, d(0, false, 14), 13, api.OK}, {m, 14, d(0, false, 15), 14, api.OK}, {m, 15, d(0, true, 1), 15, api.OK}, {m, 29, d(0, true, 15), 29, api.OK}, {m, 30, d(1, false, 1), 30, api.OK}, {m, 58, d(1, true, 14), 58, api.OK}, {m, 59, d(2, false, 1), 60, api.OK}, {m, 1000000, d(33898, false, 10), 1016949, api.OK},
		{slow, 0, d(0, false, 0), 0, api.ErrNone}, {slow, 1, d(0, false, 1), 0, api.OK}, {slow, 2, d(0, false, 2), 1, api.OK}, {slow, 3, d(0, false, 2), 1, api.OK}, {slow, 4, d(0, false, 3), 2, api.OK}, {slow, 5, d(0, false, 4), 3, api.OK},
		{late, 0, d(0, false, 0), 0, api.ErrNone}, {late, 1, d(0, false, 1), 0, api.OK}, {late, 2, d(0, false, 2), 1, api.OK}, {late, 1000000, d(33333, false, 10), 999999, api.OK}, {moon(60, 60, 1), 0, d(0, false, 0), 0, api.ErrNone}, {moon(60, 60, 0), 0, d(0, false, 1), 0, api.OK}, {moon(2, 1, 0), 1, d(0, false, 1), 0, api.OK}, {moon(2, 1, 0), 2, d(0, false, 2), 1, api.OK}, {moon(2, 1, 0), 1000000, d(16666, true, 6), 500000, api.OK}, {moon(1, 2, 0), 1000000, d(66666, true, 6), 2000000, api.OK}, {moon(50000, 100000, 99999), 1000000, d(66666, true, 4), 1999998, api.OK},
		{m, -1, d(0, false, 0), 0, api.ErrRange}, {m, 1000001, d(0, false, 0), 0, api.ErrRange}, {slow, -1, d(0, false, 0), 0, api.ErrRange}, {m, -1 << 63, d(0, false, 0), 0, api.ErrRange}, {m, 1<<63 - 1, d(0, false, 0), 0, api.ErrRange},
	} {
		d, number, e := song.At(c.m, c.day)
		if d != c.d || number != c.number || e != c.e {
			t.Error(i, d, number, e)
		}
	}
}

// P10.10: on which day an act falls, and how.
func TestFalls(t *testing.T) {
	m, slow := moon(59, 60, 0), moon(3, 2, 1)
	for i, c := range []struct {
		m           api.Moon
		number, day int
		how         api.LunarFall
		e           api.Errno
	}{
		{m, 0, 0, api.FallsOnce, api.OK}, {m, 1, 1, api.FallsOnce, api.OK}, {m, 58, 58, api.FallsOnce, api.OK}, {m, 59, 58, api.FallsNever, api.OK}, {m, 60, 59, api.FallsOnce, api.OK}, {m, 119, 117, api.FallsNever, api.OK}, {m, 1000000, 983334, api.FallsOnce, api.OK},
		{slow, 0, 1, api.FallsOnce, api.OK}, {slow, 1, 2, api.FallsTwice, api.OK}, {slow, 2, 4, api.FallsOnce, api.OK}, {slow, 3, 5, api.FallsTwice, api.OK},
		{moon(1, 2, 0), 0, 0, api.FallsOnce, api.OK}, {moon(1, 2, 0), 1, 0, api.FallsNever, api.OK}, {moon(1, 2, 0), 2, 1, api.FallsOnce, api.OK}, {moon(1, 2, 1), 0, 0, api.FallsNever, api.OK}, {moon(1, 2, 1), 1, 1, api.FallsOnce, api.OK},
		{moon(2, 1, 0), 0, 0, api.FallsTwice, api.OK}, {moon(2, 1, 0), 1000000, 2000000, api.FallsTwice, api.OK}, {moon(1, 1, 0), 7, 7, api.FallsOnce, api.OK}, {moon(60, 60, 1), 7, 8, api.FallsOnce, api.OK}, {moon(120, 60, 59), 1, 3, api.FallsTwice, api.OK}, {moon(200000, 100000, 99999), 1000000, 2000001, api.FallsTwice, api.OK}, {moon(199999, 100000, 1), 0, 1, api.FallsOnce, api.OK}, {moon(199999, 100000, 1), 1, 2, api.FallsTwice, api.OK},
		{m, -1, 0, 0, api.ErrRange}, {m, 1000001, 0, 0, api.ErrRange}, {m, -1 << 63, 0, 0, api.ErrRange}, {m, 1<<63 - 1, 0, 0, api.ErrRange},
	} {
		day, how, e := song.Falls(c.m, c.number)
		if day != c.day || how != c.how || e != c.e {
			t.Error(i, day, how, e)
		}
	}
}

// P10.11: the next day on which an act falls.
func TestNext(t *testing.T) {
	m := moon(59, 60, 0)
	for i, c := range []struct {
		m      api.Moon
		from   int
		dark   bool
		number int
		want   int
		e      api.Errno
	}{
		{m, 0, false, 1, 0, api.OK}, {m, 1, false, 1, 30, api.OK}, {m, 30, false, 1, 30, api.OK}, {m, 31, false, 1, 59, api.OK}, {m, 0, true, 1, 15, api.OK}, {m, 0, true, 15, 29, api.OK}, {m, 0, false, 15, 14, api.OK}, {m, 31, true, 15, 58, api.OK}, {m, 58, true, 15, 58, api.OK}, {m, 59, true, 15, 88, api.OK}, {m, 15, true, 1, 15, api.OK}, {m, 16, true, 1, 45, api.OK},
		{moon(3, 2, 1), 0, false, 1, 1, api.OK}, {moon(3, 2, 1), 2, false, 2, 2, api.OK}, {moon(3, 2, 1), 3, false, 2, 47, api.OK}, {moon(1, 2, 0), 0, false, 2, 0, api.OK}, {moon(1, 2, 0), 1, false, 2, 15, api.OK},
		// The last lunar day of all is the tenth one of the bright half, and one later.
		{moon(1, 1, 0), 1000000, false, 11, 1000000, api.OK}, {moon(1, 1, 0), 999991, false, 1, 0, api.ErrNone}, {moon(1, 1, 0), 999990, false, 1, 999990, api.OK}, {moon(1, 1, 0), 1000000, false, 10, 0, api.ErrNone}, {moon(1, 1, 0), 999999, false, 10, 999999, api.OK}, {moon(1, 1, 0), 999972, false, 12, 0, api.ErrNone}, {moon(1, 1, 0), 999971, false, 12, 999971, api.OK}, {moon(1, 1, 0), 1000000, false, 12, 0, api.ErrNone}, {moon(1, 1, 0), 999989, true, 15, 999989, api.OK}, {moon(1, 1, 0), 999990, true, 15, 0, api.ErrNone},
		{m, 983334, false, 11, 983334, api.OK}, {m, 983335, false, 11, 0, api.ErrNone}, {m, 984000, false, 1, 0, api.ErrNone}, {m, 1000000, true, 8, 0, api.ErrNone}, {moon(2, 1, 0), 1000000, false, 1, 1000020, api.OK}, {moon(2, 1, 0), 1000000, true, 6, 1000000, api.OK},
		{m, -1, false, 1, 0, api.ErrRange}, {m, 1000001, false, 1, 0, api.ErrRange}, {m, 0, false, 16, 0, api.ErrRange}, {m, 0, true, 16, 0, api.ErrRange}, {m, 0, true, 0, 0, api.ErrRange}, {m, 0, false, -1, 0, api.ErrRange}, {m, 1000000, false, 16, 0, api.ErrRange}, {m, 0, true, 1<<63 - 1, 0, api.ErrRange}, {m, 0, true, -1 << 63, 0, api.ErrRange}, {m, 1<<63 - 1, true, 1, 0, api.ErrRange},
	} {
		day, e := song.Next(c.m, c.from, c.dark, c.number)
		if day != c.want || e != c.e {
			t.Error(i, day, e)
		}
	}
}

// P10.12: lunar days that fall on no sunrise, and on two.
func TestOdd(t *testing.T) {
	m, slow := moon(59, 60, 0), moon(3, 2, 1)
	for i, c := range []struct {
		m            api.Moon
		from, to     int
		never, twice []int
		e            api.Errno
	}{
		{m, 0, 130, []int{59, 119}, nil, api.OK}, {m, 59, 119, []int{59, 119}, nil, api.OK}, {m, 60, 118, nil, nil, api.OK}, {m, 59, 59, []int{59}, nil, api.OK}, {m, 58, 58, nil, nil, api.OK}, {m, 999000, 1000000, []int{999059, 999119, 999179, 999239, 999299, 999359, 999419, 999479, 999539, 999599, 999659, 999719, 999779, 999839, 999899, 999959}, nil, api.OK},
		{slow, 0, 5, nil, []int{1, 3, 5}, api.OK}, {slow, 1, 4, nil, []int{1, 3}, api.OK}, {slow, 999999, 1000000, nil, []int{999999}, api.OK}, {moon(1, 2, 0), 0, 5, []int{1, 3, 5}, nil, api.OK}, {moon(2, 1, 0), 0, 2, nil, []int{0, 1, 2}, api.OK}, {moon(1, 1, 0), 0, 1000, nil, nil, api.OK},
		{m, 0, 1001, nil, nil, api.ErrRange}, {m, 1, 0, nil, nil, api.ErrRange}, {m, -1, 0, nil, nil, api.ErrRange}, {m, -1, -1, nil, nil, api.ErrRange}, {m, 1000000, 1000001, nil, nil, api.ErrRange}, {m, 1000001, 1000001, nil, nil, api.ErrRange}, {m, 0, 1000000, nil, nil, api.ErrRange}, {m, 998999, 1000000, nil, nil, api.ErrRange}, {m, 5, 3, nil, nil, api.ErrRange}, {m, -1 << 63, 1<<63 - 1, nil, nil, api.ErrRange}, {m, 1<<63 - 1, -1 << 63, nil, nil, api.ErrRange}, {m, 1000001, 0, nil, nil, api.ErrRange},
	} {
		never, twice, e := song.Odd(c.m, c.from, c.to)
		if !slices.Equal(never, c.never) || !slices.Equal(twice, c.twice) || e != c.e {
			t.Error(i, never, twice, e)
		}
	}
}

// someDays returns a day, or the number of a lunar day.
func someDays(next func(n int) int) int {
	return []int{next(5), next(100), next(api.MaxLunarDay + 1), api.MaxLunarDay - next(100)}[next(4)]
}

// P10.9, P10.10, P10.12: as in the model.
func TestMoonsAsModel(t *testing.T) {
	next := pseudo()
	found := map[api.LunarFall]int{}
	for range 3000 {
		m := someMoon(next)
		if e := song.CheckMoon(m); e != api.OK {
			t.Error(m, e)
		}
		day := someDays(next)
		d, number, e := song.At(m, day)
		if hasBegun := modelBegin(m, 0).Cmp(ratio(day, 1)) <= 0; hasBegun && (!modelCurrent(m, number, day) || d != modelLunarDay(number) || e != api.OK) || !hasBegun && e != api.ErrNone {
			t.Error(m, day, d, number, e)
		}
		from := someDays(next)
		to := min(from+next(12), api.MaxLunarDay)
		var never, twice []int
		for k := from; k <= to; k++ {
			day, how, e := song.Falls(m, k)
			if wantDay, want := modelFalls(m, k); day != wantDay || how != want || e != api.OK {
				t.Error(m, k, day, how, e, wantDay, want)
			}
			found[how]++
			switch how {
			case api.FallsNever:
				never = append(never, k)
			case api.FallsTwice:
				twice = append(twice, k)
			}
		}
		if l, k, e := song.Odd(m, from, to); !slices.Equal(l, never) || !slices.Equal(k, twice) || e != api.OK {
			t.Error(m, from, to, l, never, k, twice, e)
		}
	}
	if min(found[api.FallsOnce], found[api.FallsTwice], found[api.FallsNever]) < 1000 {
		t.Error("only so many of a sort:", found)
	}
}

// P10.11: as in the model, which tries one lunar day after another.
func TestNextAsModel(t *testing.T) {
	next := pseudo()
	found, none := 0, 0
	for range 1000 {
		m := someMoon(next)
		from := someDays(next)
		if next(2) == 0 {
			from = min(api.MaxLunarDay, api.MaxLunarDay*m.Len/m.Per-next(60))
		}
		dark, number := next(2) == 0, 1+next(15)
		want := modelNext(m, from, dark, number)
		day, e := song.Next(m, from, dark, number)
		if want >= 0 && (day != want || e != api.OK) || want < 0 && (day != 0 || e != api.ErrNone) {
			t.Error(m, from, dark, number, day, want, e)
		}
		if e == api.OK {
			found++
		} else {
			none++
		}
	}
	if min(found, none) < 100 {
		t.Error("only so many of a sort:", found, none)
	}
}

// P10.16: at each sunrise one lunar day is current, and its number grows; none falls twice if they last no longer than a day, and none never if no shorter.
func TestSunrises(t *testing.T) {
	next := pseudo()
	for range 400 {
		m := someMoon(next)
		first := min(someDays(next), api.MaxLunarDay-40)
		falls := map[int]int{}
		last := -1
		for day := first; day < first+40; day++ {
			d, number, e := song.At(m, day)
			if e == api.ErrNone && day == 0 && m.Phase > 0 {
				continue
			}
			if e != api.OK || number < last || m.Len <= m.Per && number == last || last >= 0 && m.Len >= m.Per && number > last+1 || d != modelLunarDay(number) || modelCurrent(m, number-1, day) || !modelCurrent(m, number, day) {
				t.Error(m, day, d, number, last, e)
			}
			falls[number]++
			last = number
		}
		for number, n := range falls {
			if n > 2 || m.Len <= m.Per && n > 1 {
				t.Error(m, number, n)
			}
		}
	}
}

// P10.16: an act falls on a day on which its lunar day is current at some time; two sorts of moons have no lunar days of one sort.
func TestFallsWhenCurrent(t *testing.T) {
	next := pseudo()
	for range 2000 {
		m := someMoon(next)
		k := someDays(next)
		day, how, e := song.Falls(m, k)
		begin, end := modelBegin(m, k), modelBegin(m, k+1)
		if e != api.OK || begin.Cmp(ratio(day+1, 1)) >= 0 || end.Cmp(ratio(day, 1)) <= 0 {
			t.Error(m, k, day, e)
		}
		if m.Len <= m.Per && how == api.FallsTwice || m.Len >= m.Per && how == api.FallsNever {
			t.Error(m, k, how)
		}
		if day > api.MaxLunarDay || how == api.FallsNever {
			continue
		}
		if d, number, e := song.At(m, day); d != modelLunarDay(k) || number != k || e != api.OK {
			t.Error(m, k, day, d, number, e)
		}
	}
}
