package song_test

import (
	"slices"
	"strings"
	"testing"

	"chiti/api"
	"chiti/song"
)

// P10.3: what a metre can be.
func TestCheckMetre(t *testing.T) {
	x := func(n int) string { return strings.Repeat("x", n) }
	one := func(pattern string, units int) api.Metre {
		return api.Metre{Lines: []api.MetreLine{lineOf(pattern, units)}}
	}
	for i, c := range []struct {
		m  api.Metre
		ok bool
	}{
		{metre("x"), true}, {api.Metre{}, false}, {metre(), false}, {api.Metre{Name: "m"}, false}, {one("x", 0), true},
		{api.Metre{Name: "\xff \n" + x(1000), Lines: []api.MetreLine{{Pattern: "l"}}}, true},
		{metre(slices.Repeat([]string{"x"}, 8)...), true}, {metre(slices.Repeat([]string{"x"}, 9)...), false},
		{metre(""), false}, {metre("x", ""), false}, {metre("", "x"), false}, {metre(x(60)), true}, {metre(x(61)), false}, {metre("x", x(61)), false}, {metre(x(60), x(60)), true},
		{metre("l"), true}, {metre("g"), true}, {metre("lgx"), true}, {metre("L"), false}, {metre("G"), false}, {metre("X"), false}, {metre("x x"), false}, {metre(" "), false}, {metre("lgy"), false}, {metre("ylg"), false}, {metre("x", "xa"), false}, {metre("x\xff"), false}, {metre("xé"), false}, {metre("x\x00"), false}, {metre("k"), false}, {metre("h"), false}, {metre("m"), false},
		{one("x", 1), true}, {one("x", 120), true}, {one("x", 121), false}, {one("x", -1), false}, {one("x", -1<<63), false}, {one("x", 1<<63-1), false}, {one("ll", 4), true},
		{api.Metre{Lines: []api.MetreLine{lineOf("x", 0), lineOf("x", 121)}}, false},
	} {
		e := song.CheckMetre(c.m)
		if (e == api.OK) != c.ok || e != api.OK && e != api.ErrArg {
			t.Error(i, c.m, e)
		}
		line, syllable, f := song.Fits(c.m, []string{"R"})
		l, g := song.Which([]api.Metre{metre("x"), c.m}, []string{"R"})
		if want := map[bool]api.Errno{true: api.ErrForm, false: api.ErrArg}[c.ok]; f != want || g != want || line != 0 || syllable != 0 || l != nil {
			t.Error(i, c.m, line, syllable, f, l, g)
		}
		if len(c.m.Lines) != 1 {
			continue
		}
		n, f := song.Count(c.m.Lines[0])
		way, g := song.Nth(c.m.Lines[0], -1)
		rank, h := song.Rank(c.m.Lines[0], "")
		if f != e || g == api.ErrArg == c.ok || h == api.ErrArg == c.ok || !c.ok && (n != 0 || way != "" || rank != 0) {
			t.Error(i, c.m, n, f, way, g, rank, h)
		}
	}
}

// P10.3: lines that fill a metre, and those that do not.
func TestFits(t *testing.T) {
	units := func(m api.Metre, l ...int) api.Metre {
		for i, n := range l {
			m.Lines[i].Units = n
		}
		return m
	}
	agnim := "agnim Ile purohitam" // glgglgll
	for i, c := range []struct {
		m              api.Metre
		lines          []string
		line, syllable int
	}{
		{metre("glgglgll"), []string{agnim}, -1, -1}, {metre("xxxxxxxx"), []string{agnim}, -1, -1}, {metre("gxxglxxl"), []string{agnim}, -1, -1},
		{metre("llgglgll"), []string{agnim}, 0, 0}, {metre("gggglgll"), []string{agnim}, 0, 1}, {metre("glgglglg"), []string{agnim}, 0, 7}, {metre("xxxxxxxg"), []string{agnim}, 0, 7}, {metre("glglllll"), []string{agnim}, 0, 3},
		// Too many syllables, or too few, though some are not as the pattern asks.
		{metre("glgglgl"), []string{agnim}, 0, 7}, {metre("glgglglll"), []string{agnim}, 0, 8}, {metre("glgglgllx"), []string{agnim}, 0, 8}, {metre("g"), []string{agnim}, 0, 1}, {metre("l"), []string{agnim}, 0, 0}, {metre("glgglglgl"), []string{agnim}, 0, 7}, {metre("gll"), []string{agnim}, 0, 2}, {metre(strings.Repeat("x", 60)), []string{agnim}, 0, 8}, {metre("x"), []string{strings.Repeat("a", 300)}, 0, 1},
		// Units.
		{units(metre("glgglgll"), 12), []string{agnim}, -1, -1}, {units(metre("glgglgll"), 11), []string{agnim}, 0, 8}, {units(metre("xxxxxxxx"), 13), []string{agnim}, 0, 8}, {units(metre("xxxxxxxx"), 8), []string{agnim}, 0, 8}, {units(metre("xxxxxxxx"), 120), []string{agnim}, 0, 8}, {units(metre("xxxxxxxg"), 13), []string{agnim}, 0, 7}, {units(metre("xxxxxxx"), 12), []string{agnim}, 0, 7}, {units(metre("xxxxxxxxx"), 12), []string{agnim}, 0, 8}, {units(metre("xxxxxxx"), 10), []string{agnim}, 0, 7},
		// More lines, and fewer.
		{metre("l", "g"), []string{"a", "A"}, -1, -1}, {metre("l", "g"), []string{"a", "a"}, 1, 0}, {metre("l", "g"), []string{"A", "a"}, 0, 0}, {metre("l", "xl"), []string{"a", "aA"}, 1, 1},
		{metre("l", "g"), []string{"a"}, 1, 0}, {metre("l"), []string{"a", "a"}, 1, 0}, {metre("l", "g", "l"), []string{"a"}, 1, 0}, {metre("l"), []string{"a", "a", "a"}, 1, 0}, {metre("l", "g"), []string{"A"}, 0, 0}, {metre("l", "xl"), []string{"a", "aA", "a"}, 1, 1}, {metre("x"), nil, 0, 0}, {metre("x", "x"), nil, 0, 0},
		{units(metre("x", "x"), 1, 2), []string{"a", "A"}, -1, -1}, {units(metre("x", "x"), 1, 2), []string{"a", "a"}, 1, 1}, {units(metre("x", "x"), 2, 2), []string{"a", "a"}, 0, 1},
		{metre(slices.Repeat([]string{"x"}, 8)...), slices.Repeat([]string{"a"}, 8), -1, -1}, {metre(slices.Repeat([]string{"x"}, 7)...), slices.Repeat([]string{"a"}, 8), 7, 0}, {metre(slices.Repeat([]string{"x"}, 8)...), slices.Repeat([]string{"a"}, 7), 7, 0},
	} {
		line, syllable, e := song.Fits(c.m, c.lines)
		if line != c.line || syllable != c.syllable || e != api.OK {
			t.Error(i, line, syllable, e)
		}
		var weights []string
		for _, s := range c.lines {
			weights = append(weights, modelWeights(s))
		}
		if line, syllable := modelFits(c.m, weights); line != c.line || syllable != c.syllable {
			t.Error("the model differs:", i, line, syllable)
		}
	}
}

// P10.3, P10.4: the errors of lines, line by line, behind those of metres.
func TestMetreErrors(t *testing.T) {
	a := func(n int) []string { return slices.Repeat([]string{"a"}, n) }
	long := strings.Repeat("a", 301)
	bad := metre("y")
	for i, c := range []struct {
		m     api.Metre
		lines []string
		e     api.Errno
	}{
		{metre("x"), a(8), api.OK}, {metre("x"), a(9), api.ErrLong}, {metre("x"), make([]string, 9), api.ErrLong}, {metre("x"), make([]string, 8), api.ErrForm},
		{metre("x"), []string{"a", "t"}, api.ErrSound}, {metre("x"), []string{"t", "R"}, api.ErrSound}, {metre("x"), []string{"R", "t"}, api.ErrForm}, {metre("x"), []string{"a", long}, api.ErrLong}, {metre("x"), []string{"t", long}, api.ErrSound}, {metre("x"), []string{long, "t"}, api.ErrLong}, {metre("x"), []string{"R", long}, api.ErrForm}, {metre("g"), []string{"a", "a", "M"}, api.ErrSound}, {metre("x"), append(a(7), ""), api.ErrForm},
		{bad, a(9), api.ErrArg}, {bad, []string{"R"}, api.ErrArg}, {bad, nil, api.ErrArg}, {metre(), nil, api.ErrArg},
	} {
		line, syllable, e := song.Fits(c.m, c.lines)
		l, f := song.Which([]api.Metre{metre("l"), c.m}, c.lines)
		if e != c.e || f != c.e || e != api.OK && (line != 0 || syllable != 0) || l != nil {
			t.Error(i, line, syllable, e, l, f)
		}
	}
	metres := slices.Repeat([]api.Metre{metre("x")}, 21)
	for i, c := range []struct {
		metres []api.Metre
		lines  []string
		e      api.Errno
	}{
		{metres[:20], a(1), api.OK}, {metres, a(1), api.ErrLong}, {append(metres[:20:20], bad), []string{"R"}, api.ErrLong}, {make([]api.Metre, 21), nil, api.ErrLong}, {make([]api.Metre, 20), nil, api.ErrArg}, {append(metres[:19:19], bad), a(9), api.ErrArg}, {append([]api.Metre{bad}, metres[:19]...), []string{"t"}, api.ErrArg}, {metres[:20], a(9), api.ErrLong}, {metres[:20], []string{"a", "t"}, api.ErrSound},
		// Lines are looked at also if there are no metres.
		{nil, []string{"t"}, api.ErrSound}, {nil, []string{"a", "R"}, api.ErrForm}, {nil, a(9), api.ErrLong}, {nil, a(8), api.OK}, {nil, nil, api.OK},
	} {
		l, e := song.Which(c.metres, c.lines)
		if e != c.e || e != api.OK && l != nil {
			t.Error(i, l, e)
		}
		if e == api.OK && len(l) != len(c.metres) {
			t.Error(i, l)
		}
	}
}

// P10.4: the metres that some lines have.
func TestWhich(t *testing.T) {
	twelve := metre("xxxxxxxx")
	twelve.Lines[0].Units = 12
	thirteen := metre("xxxxxxxx")
	thirteen.Lines[0].Units = 13
	for i, c := range []struct {
		metres []api.Metre
		lines  []string
		want   []int
	}{
		{[]api.Metre{metre("x", "x"), metre("g", "l"), metre("x"), metre("l", "g")}, []string{"A", "i"}, []int{0, 1}},
		{[]api.Metre{metre("xx"), thirteen, metre("glgglgll"), twelve}, []string{"agnim Ile purohitam"}, []int{2, 3}},
		{[]api.Metre{metre("x"), metre("x"), metre("x")}, []string{"a"}, []int{0, 1, 2}},
		{[]api.Metre{metre("g"), metre("x"), metre("xx")}, []string{"a"}, []int{1}},
		{[]api.Metre{metre("g")}, []string{"a"}, nil}, {[]api.Metre{metre("x")}, nil, nil}, {nil, nil, nil}, {nil, []string{"a"}, nil},
		{slices.Repeat([]api.Metre{metre("l")}, 20), []string{"a"}, []int{0, 1, 2, 3, 4, 5, 6, 7, 8, 9, 10, 11, 12, 13, 14, 15, 16, 17, 18, 19}},
	} {
		if l, e := song.Which(c.metres, c.lines); !slices.Equal(l, c.want) || e != api.OK {
			t.Error(i, l, e)
		}
	}
}

// P10.3, P10.4: as in the model.
func TestFitsAsModel(t *testing.T) {
	next := pseudo()
	fit, some := 0, 0
	for range 3000 {
		var lines, weights []string
		for range 1 + next(7) {
			line := someLine(next, 20)
			lines, weights = append(lines, line), append(weights, modelWeights(line))
		}
		var metres []api.Metre
		for range next(20) {
			m := api.Metre{}
			for _, w := range weights {
				l := lineOf(strings.Repeat("x", len(w)), 0)
				if next(30) == 0 {
					l = someMetreLine(next, w+strings.Repeat("l", next(2)))
				}
				m.Lines = append(m.Lines, l)
			}
			if next(8) == 0 {
				m.Lines = append(m.Lines, lineOf("x", 0))[:1+next(len(m.Lines)+1)]
			}
			metres = append(metres, m)
		}
		var want []int
		for i, m := range metres {
			line, syllable, e := song.Fits(m, lines)
			if wantLine, wantSyllable := modelFits(m, weights); line != wantLine || syllable != wantSyllable || e != api.OK {
				t.Error(m, lines, line, syllable, e)
			}
			if line == -1 {
				want = append(want, i)
			}
		}
		fit += min(1, len(want))
		some += min(1, len(metres)-len(want))
		if l, e := song.Which(metres, lines); !slices.Equal(l, want) || e != api.OK {
			t.Error(metres, lines, l, want, e)
		}
	}
	if min(fit, some) < 1000 {
		t.Error("only so many of a sort:", fit, some)
	}
}
