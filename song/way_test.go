package song_test

import (
	"math/big"
	"slices"
	"strings"
	"testing"

	"chiti/api"
	"chiti/song"
)

// P10.5: in how many ways a line of a metre can be filled.
func TestCount(t *testing.T) {
	x := func(n int) string { return strings.Repeat("x", n) }
	for i, c := range []struct {
		l    api.MetreLine
		want int
		e    api.Errno
	}{
		{lineOf("xxxx", 6), 6, api.OK}, {lineOf("xxxx", 0), 16, api.OK}, {lineOf("xxxx", 4), 1, api.OK}, {lineOf("xxxx", 8), 1, api.OK}, {lineOf("xxxx", 3), 0, api.OK}, {lineOf("xxxx", 9), 0, api.OK}, {lineOf("xxxx", 1), 0, api.OK}, {lineOf("xxxx", 120), 0, api.OK},
		{lineOf("l", 0), 1, api.OK}, {lineOf("l", 1), 1, api.OK}, {lineOf("l", 2), 0, api.OK}, {lineOf("g", 2), 1, api.OK}, {lineOf("g", 1), 0, api.OK}, {lineOf("x", 0), 2, api.OK}, {lineOf("x", 1), 1, api.OK}, {lineOf("x", 2), 1, api.OK}, {lineOf("lg", 0), 1, api.OK}, {lineOf("lg", 3), 1, api.OK}, {lineOf("lg", 4), 0, api.OK},
		{lineOf("lgxx", 6), 2, api.OK}, {lineOf("xlxg", 6), 2, api.OK}, {lineOf("xlxg", 0), 4, api.OK},
		{lineOf(x(60), 0), 1 << 60, api.OK}, {lineOf(x(60), 90), 118264581564861424, api.OK}, {lineOf(x(60), 60), 1, api.OK}, {lineOf(x(60), 120), 1, api.OK}, {lineOf(x(60), 61), 60, api.OK}, {lineOf(x(59)+"g", 0), 1 << 59, api.OK}, {lineOf(strings.Repeat("g", 60), 120), 1, api.OK}, {lineOf(strings.Repeat("l", 60), 60), 1, api.OK},
		{lineOf("", 0), 0, api.ErrArg}, {lineOf("x", -1), 0, api.ErrArg}, {lineOf("x", 121), 0, api.ErrArg}, {lineOf("y", 0), 0, api.ErrArg}, {lineOf(x(61), 0), 0, api.ErrArg}, {lineOf("xé", 0), 0, api.ErrArg},
	} {
		if n, e := song.Count(c.l); n != c.want || e != c.e {
			t.Error(i, c.l, n, e)
		}
	}
}

// P10.5: long patterns of which all syllables are free have as many ways as there are sets of heavy ones.
func TestCountAsSets(t *testing.T) {
	for n := 1; n <= 60; n++ {
		for units := 1; units <= 120; units++ {
			want := new(big.Int)
			if units >= n {
				want.Binomial(int64(n), int64(units-n))
			}
			if ways := count(t, lineOf(strings.Repeat("x", n), units)); int64(ways) != want.Int64() {
				t.Error(n, units, ways, want)
			}
		}
		if ways := count(t, lineOf(strings.Repeat("x", n), 0)); ways != 1<<n {
			t.Error(n, ways)
		}
	}
}

// P10.5: the numbers of ways, and the errors in their order.
func TestNthAndRank(t *testing.T) {
	six := lineOf("xxxx", 6)
	for i, way := range []string{"ggll", "glgl", "gllg", "lggl", "lglg", "llgg"} {
		s, e := song.Nth(six, i)
		n, f := song.Rank(six, way)
		if s != way || e != api.OK || n != i || f != api.OK {
			t.Error(i, s, e, n, f)
		}
	}
	x60 := strings.Repeat("x", 60)
	for i, c := range []struct {
		l      api.MetreLine
		number int
		want   string
		e      api.Errno
	}{
		{lineOf(x60, 0), 0, strings.Repeat("g", 60), api.OK}, {lineOf(x60, 0), 1<<60 - 1, strings.Repeat("l", 60), api.OK}, {lineOf(x60, 0), 1 << 60, "", api.ErrNone}, {lineOf(x60, 0), 1 << 59, "l" + strings.Repeat("g", 59), api.OK}, {lineOf(x60, 0), 1<<59 - 1, "g" + strings.Repeat("l", 59), api.OK}, {lineOf(x60, 0), 1<<63 - 1, "", api.ErrNone}, {lineOf(x60, 90), 118264581564861423, strings.Repeat("l", 30) + strings.Repeat("g", 30), api.OK}, {lineOf(x60, 90), 118264581564861424, "", api.ErrNone}, {lineOf(x60, 90), 0, strings.Repeat("g", 30) + strings.Repeat("l", 30), api.OK},
		{lineOf("lgx", 0), 0, "lgg", api.OK}, {lineOf("lgx", 0), 1, "lgl", api.OK}, {lineOf("lgx", 0), 2, "", api.ErrNone}, {lineOf("lgx", 0), -1, "", api.ErrNone}, {lineOf("lgx", 0), -1 << 63, "", api.ErrNone},
		{lineOf("lg", 4), 0, "", api.ErrNone}, {lineOf("lg", 4), -1, "", api.ErrNone}, {six, 6, "", api.ErrNone}, {six, 5, "llgg", api.OK},
		{lineOf("", 0), 0, "", api.ErrArg}, {lineOf("x", -1), -1, "", api.ErrArg}, {lineOf("xy", 0), 9, "", api.ErrArg},
	} {
		if s, e := song.Nth(c.l, c.number); s != c.want || e != c.e {
			t.Error(i, c.l, c.number, s, e)
		}
		if n, e := song.Rank(c.l, c.want); c.e == api.OK && (n != c.number || e != api.OK) {
			t.Error(i, c.l, n, e)
		}
	}
	for i, c := range []struct {
		l   api.MetreLine
		way string
		e   api.Errno
	}{
		{six, "", api.ErrForm}, {six, "ggl", api.ErrForm}, {six, "ggllg", api.ErrForm}, {six, "ggxl", api.ErrForm}, {six, "xxxx", api.ErrForm}, {six, "ggl ", api.ErrForm}, {six, "GGLL", api.ErrForm}, {six, "gg\xff\xff", api.ErrForm}, {six, "ggé", api.ErrForm}, {six, "gggx", api.ErrForm}, {six, "xggg", api.ErrForm}, {six, strings.Repeat("g", 1<<16), api.ErrForm},
		{six, "gggg", api.ErrNone}, {six, "llll", api.ErrNone}, {six, "gggl", api.ErrNone}, {six, "lglg", api.OK},
		{lineOf("lx", 0), "gl", api.ErrNone}, {lineOf("lx", 0), "gx", api.ErrForm}, {lineOf("lx", 0), "lg", api.OK}, {lineOf("xl", 0), "gg", api.ErrNone}, {lineOf("lg", 4), "lg", api.ErrNone}, {lineOf("lg", 3), "lg", api.OK}, {lineOf("gl", 3), "lg", api.ErrNone},
		{lineOf("", 0), "", api.ErrArg}, {lineOf("y", 0), "xx", api.ErrArg}, {lineOf("x", 121), "l", api.ErrArg},
	} {
		if n, e := song.Rank(c.l, c.way); e != c.e || e != api.OK && n != 0 {
			t.Error(i, c.l, c.way, n, e)
		}
	}
}

// P10.5: as in the model, which goes through all texts.
func TestWaysAsModel(t *testing.T) {
	next := pseudo()
	none, several := 0, 0
	for range 1500 {
		weights := someWeights(next, 1+next(9))
		l := someMetreLine(next, weights)
		want := modelWays(l)
		if n := count(t, l); n != len(want) {
			t.Error(l, n, len(want))
		}
		for i, way := range want {
			s, e := song.Nth(l, i)
			n, f := song.Rank(l, way)
			if s != way || e != api.OK || n != i || f != api.OK {
				t.Error(l, i, way, s, e, n, f)
			}
		}
		for _, number := range []int{-1, len(want), len(want) + 1 + next(1000)} {
			if s, e := song.Nth(l, number); s != "" || e != api.ErrNone {
				t.Error(l, number, s, e)
			}
		}
		for range 10 {
			way := someWeights(next, len(weights))
			if n, e := song.Rank(l, way); !slices.Contains(want, way) && (n != 0 || e != api.ErrNone) {
				t.Error(l, way, n, e)
			}
		}
		none += 1 - min(1, len(want))
		several += min(1, len(want)/2)
	}
	if min(none, several) < 100 {
		t.Error("only so many of a sort:", none, several)
	}
}

// P10.14: also of long lines, Nth of Rank is the text, and Rank of Nth the number; the numbers follow the order of the texts.
func TestAllWays(t *testing.T) {
	next := pseudo()
	for range 2000 {
		weights := someWeights(next, 1+next(60))
		l := someMetreLine(next, weights)
		l.Units *= next(2)
		ways := count(t, l)
		if n, e := song.Rank(l, weights); modelFills(l, weights) {
			if s, f := song.Nth(l, n); s != weights || e != api.OK || f != api.OK {
				t.Error(l, weights, n, s, e, f)
			}
		} else if e != api.ErrNone {
			t.Error(l, weights, n, e)
		}
		if ways == 0 {
			continue
		}
		number := next(ways)
		s, e := song.Nth(l, number)
		n, f := song.Rank(l, s)
		if n != number || !modelFills(l, s) || e != api.OK || f != api.OK {
			t.Error(l, number, s, n, e, f)
		}
		if after, e := song.Nth(l, number+1); number+1 < ways && (after <= s || e != api.OK) {
			t.Error(l, number, s, after, e)
		}
	}
}

// P10.14: a pattern with an x has as many ways as the two with l and g in its place have together.
func TestBothWays(t *testing.T) {
	next := pseudo()
	for range 2000 {
		l := someMetreLine(next, someWeights(next, 1+next(60)))
		for i := range l.Pattern {
			if l.Pattern[i] != 'x' {
				continue
			}
			with := func(weight string) int {
				return count(t, lineOf(l.Pattern[:i]+weight+l.Pattern[i+1:], l.Units))
			}
			if n := count(t, l); n != with("l")+with("g") {
				t.Error(l, i, n)
			}
			break
		}
	}
}
