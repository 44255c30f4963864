package area_test

import (
	"math"
	"slices"
	"testing"

	"chiti/api"
	"chiti/area"
)

func isZeroPlot(p api.Plot) bool { return p.Kind == 0 && isZero(p.A) && isZero(p.B) && isZero(p.C) }

// someAreas are plots with many areas, and some without.
func someAreas(t *testing.T) []api.Plot {
	t.Helper()
	return plots(t,
		"square 2",                     // 0: 4
		"oblong 1 5",                   // 1: 5
		"oblong 1 1+r2",                // 2: 1+r2
		"square 1000",                  // 3: ErrOver
		"oblong 1+r2+r3 1+r5",          // 4: ErrFull
		"oblong 1 60000",               // 5: 60000
		"triangle 3 5",                 // 6: 15/2
		"rhomb 2 3+2r2",                // 7: 3+2r2
		"trapezium 1 3 r5",             // 8: 2r5
		"oblong 1 1+r2+r3",             // 9
		"oblong 1 r5+r7",               // 10
		"oblong 1 1009",                // 11
		"oblong 1 10+r2+r3",            // 12
		"oblong 1 100000r997",          // 13
		"square 1/300",                 // 14
		"oblong 1 3-2r2",               // 15
		"trapezium 100000 100000r2 r3", // 16
		"oblong 1/99999 1",             // 17
	)
}

// P4.2: the plots that changes make.
func TestChange(t *testing.T) {
	l := someAreas(t)
	for _, c := range []struct{ change, plot string }{
		{"square 0", "square 2"},
		{"square 1", "square r5"},
		{"square 6", "square r30/2"},
		{"square 7", "square 1+r2"},
		{"square 15", "square -1+r2"},
		{"square 14", "square 1/300"},
		{"oblong 0 3", "oblong 3 4/3"},
		{"oblong 8 r5", "oblong r5 2"},
		{"oblong 2 1+r2", "oblong 1+r2 1"},
		{"oblong 5 60000", "oblong 60000 1"},
		{"oblong 9 r2", "oblong r2 (2+r2+r6)/2"},
		{"triangle 1 r5", "triangle r5 2r5"},
		{"triangle 6 3", "triangle 3 5"},
		{"triangle 17 1/99999", "triangle 1/99999 2"},
		{"rhomb 0 4", "rhomb 4 2"},
		{"rhomb 7 2", "rhomb 2 3+2r2"},
		{"trapezium 0 3 1/3", "trapezium 3 1 2"},
		{"trapezium 0 3 2/6", "trapezium 3 1 2"},
		{"trapezium 0 1 1000/1", "trapezium 1 1000 8/1001"},
		{"trapezium 0 1 1/1000", "trapezium 1 1/1000 8000/1001"},
		{"trapezium 0 1 1000/1000", "trapezium 1 1 4"},
		{"trapezium 8 1 2/1", "trapezium 1 2 4r5/3"},
		{"trapezium 8 r5 1/2", "trapezium r5 r5/2 8/3"},
		{"join 0 1", "square 3"},
		{"join 1 0", "square 3"},
		{"join 0 0", "square 2r2"},
		{"join 7 15", "square r6"},
		{"less 1 0", "square 1"},
		{"less 12 9", "square 3"},
		{"times 0 9/4", "square 3"},
		{"times 0 4/8", "square r2"},
		{"times 0 1000/1000", "square 2"},
		{"times 0 1000/1", "square 20r10"},
		{"times 0 1/1000", "square r10/50"},
		{"times 0 1/997", "square 2r997/997"},
		{"times 7 2/1", "square 2+r2"},
	} {
		p, e := area.Change(l, change(t, c.change))
		if toldPlot(p) != c.plot || e != api.OK {
			t.Error(c.change, toldPlot(p), e)
		}
	}
}

// P4.2: the errors of changes, and the first one of several.
func TestChangeErrors(t *testing.T) {
	l := someAreas(t)
	for _, c := range []struct {
		change string
		e      api.Errno
	}{
		// The first plot, and then the second one, must be there.
		{"square 18", api.ErrNone},
		{"square -1", api.ErrNone},
		{"oblong 18 3", api.ErrNone},
		{"trapezium 18 3 1/3", api.ErrNone},
		{"times 18 1/3", api.ErrNone},
		{"join 18 0", api.ErrNone},
		{"join 0 18", api.ErrNone},
		{"join -1 0", api.ErrNone},
		{"join 0 -1", api.ErrNone},
		{"less 0 18", api.ErrNone},
		{"less 18 0", api.ErrNone},
		{"join 3 18", api.ErrNone},
		{"less 4 18", api.ErrNone},
		{"less 18 4", api.ErrNone},
		{"square 17", api.ErrOver},
		// The area of the first plot, and then of the second one.
		{"square 3", api.ErrOver},
		{"square 4", api.ErrFull},
		{"oblong 3 1+r2+r3", api.ErrOver},
		{"oblong 4 1+r2+r3", api.ErrFull},
		{"triangle 4 1+r2+r3", api.ErrFull},
		{"rhomb 4 1+r2+r3", api.ErrFull},
		{"trapezium 4 60000 1000/1", api.ErrFull},
		{"times 4 1000/1", api.ErrFull},
		{"join 3 4", api.ErrOver},
		{"join 4 3", api.ErrFull},
		{"less 3 4", api.ErrOver},
		{"less 4 3", api.ErrFull},
		{"join 0 4", api.ErrFull},
		{"join 4 0", api.ErrFull},
		{"less 0 4", api.ErrFull},
		{"less 14 3", api.ErrOver},
		// An area must be greater than what is taken away, before it is taken away.
		{"less 0 1", api.ErrRange},
		{"less 1 1", api.ErrRange},
		{"less 15 7", api.ErrRange},
		{"less 9 10", api.ErrRange},
		{"less 10 9", api.ErrFull},
		{"less 10 12", api.ErrRange},
		{"less 12 10", api.ErrFull},
		// Sums, differences and products.
		{"join 9 10", api.ErrFull},
		{"join 5 5", api.ErrOver},
		{"join 13 13", api.ErrOver},
		{"less 17 14", api.ErrRange},
		{"less 14 17", api.ErrOver},
		{"times 5 2/1", api.ErrOver},
		{"times 17 1/2", api.ErrOver},
		{"triangle 5 60000", api.ErrOver},
		{"rhomb 5 60000", api.ErrOver},
		{"trapezium 5 60000 1/1", api.ErrOver},
		{"trapezium 0 101 1000/1", api.ErrOver},
		{"trapezium 0 60000 1/1", api.ErrOver},
		{"trapezium 0 1/101 1/1000", api.ErrOver},
		// They come ahead of quotients that are no numbers.
		{"triangle 5 1+r2+r3", api.ErrOver},
		{"rhomb 5 1+r2+r3", api.ErrOver},
		{"trapezium 5 1+r2+r3 1/1", api.ErrOver},
		{"trapezium 0 50001+r2+r3 1/1", api.ErrOver},
		{"trapezium 0 101+r2+r3 1000/1", api.ErrOver},
		{"trapezium 0 50000+r2+r3 1/1", api.ErrSurd},
		// Quotients.
		{"oblong 0 1+r2+r3", api.ErrSurd},
		{"triangle 0 1+r2+r3", api.ErrSurd},
		{"rhomb 0 1+r2+r3", api.ErrSurd},
		{"trapezium 0 1+r2+r3 1/2", api.ErrSurd},
		{"oblong 9 1+r5", api.ErrFull},
		{"triangle 9 1+r5", api.ErrFull},
		{"rhomb 9 1+r5", api.ErrFull},
		{"trapezium 9 1+r5 1/2", api.ErrFull},
		{"oblong 5 1/2", api.ErrOver},
		{"triangle 1 1/99999", api.ErrOver},
		{"rhomb 1 1/99999", api.ErrOver},
		{"trapezium 1 1/99999 1/1", api.ErrOver},
		{"oblong 1 99999r2", api.ErrOver},
		// Roots.
		{"square 2", api.ErrSurd},
		{"square 8", api.ErrSurd},
		{"square 9", api.ErrSurd},
		{"square 10", api.ErrSurd},
		{"square 11", api.ErrOver},
		{"square 17", api.ErrOver},
		{"join 0 2", api.ErrSurd},
		{"join 11 11", api.ErrOver},
		{"less 7 15", api.ErrSurd},
		{"less 5 0", api.ErrOver},
		{"times 2 1/2", api.ErrSurd},
		{"times 0 997/991", api.ErrOver},
	} {
		p, e := area.Change(l, change(t, c.change))
		if e != c.e || e != api.OK && !isZeroPlot(p) {
			t.Error(c.change, toldPlot(p), e)
		}
	}
}

// validChanges are changes of a first plot, and of a second one.
func validChanges(t *testing.T) []api.AreaChange {
	return changes(t, "square 0,oblong 0 3,triangle 0 3,rhomb 0 3,trapezium 0 3 1/2,join 0 1,less 0 1,times 0 1/2,")
}

// uses tells what a change uses: s for Second, x for X, n for Num and Den.
func uses(k api.ChangeKind) string { return []string{"", "", "x", "x", "x", "xn", "s", "s", "n"}[k] }

func invalidChanges(t *testing.T) []api.AreaChange {
	t.Helper()
	one, zero := num(t, "1"), num(t, "0")
	l := []api.AreaChange{{}, {X: one, Num: 1, Den: 1}, {Kind: 9}, {Kind: 9, Second: 1}, {Kind: 9, X: one}, {Kind: 9, Num: 1, Den: 1}, {Kind: -1}, {Kind: math.MaxInt}, {Kind: math.MinInt}}
	for _, c := range validChanges(t) {
		add := func(do func(c *api.AreaChange)) {
			changed := c
			do(&changed)
			l = append(l, changed)
		}
		wrong := []api.Number{one, zero, num(t, "no"), {Den: -1}, {Terms: one.Terms}}
		ints := []int{1, -1, 2, 1000, math.MaxInt, math.MinInt}
		for _, used := range uses(c.Kind) {
			switch used {
			case 'x':
				wrong = []api.Number{{}, zero, num(t, "-1"), num(t, "1-r2"), num(t, "no"), {Terms: one.Terms}}
			case 'n':
				ints = []int{0, -1, 1001, math.MaxInt, math.MinInt}
			}
		}
		for _, x := range wrong {
			add(func(c *api.AreaChange) { c.X = x })
		}
		for _, n := range ints {
			add(func(c *api.AreaChange) { c.Num = n })
			add(func(c *api.AreaChange) { c.Den = n })
			add(func(c *api.AreaChange) { c.Num, c.Den = n, n })
		}
		if uses(c.Kind) != "s" {
			for _, n := range []int{1, -1, 99, math.MaxInt, math.MinInt} {
				add(func(c *api.AreaChange) { c.Second = n })
			}
		}
	}
	return l
}

// P4.2: what is no valid change: another kind, what it uses and is out of its range, and what it does not use.
func TestInvalidChanges(t *testing.T) {
	l := plots(t, "square 3", "square 1")
	for _, c := range validChanges(t) {
		if p, e := area.Change(l, c); e == api.ErrArg {
			t.Error(c, p, e)
		}
	}
	invalid := invalidChanges(t)
	if len(invalid) < 150 {
		t.Error("only so many:", len(invalid))
	}
	for _, c := range invalid {
		for _, first := range []int{0, 2, -1, 99} {
			c.First = first
			for _, l := range [][]api.Plot{l, nil, plots(t, "square 1000", "square 1000")} {
				if p, e := area.Change(l, c); !isZeroPlot(p) || e != api.ErrArg {
					t.Error(c, toldPlot(p), e)
				}
			}
		}
		c.First = 0
		if m, at, e := area.Run(l, []api.AreaChange{change(t, "square 1"), c}); len(m) != 0 || at != 1 || e != api.ErrArg {
			t.Error(c, toldPlots(m), at, e)
		}
		if m, at, e := area.Areas(l, []api.AreaChange{change(t, "square 1"), c}); len(m) != 0 || at != 1 || e != api.ErrArg {
			t.Error(c, toldNumbers(m), at, e)
		}
	}
}

// P4.2: up to 40 plots may be there; more are the first error.
func TestManyPlots(t *testing.T) {
	l := slices.Repeat(plots(t, "square 1"), 41)
	l[39] = plot(t, "square 5")
	if p, e := area.Change(l[:40], change(t, "square 39")); toldPlot(p) != "square 5" || e != api.OK {
		t.Error(toldPlot(p), e)
	}
	if p, e := area.Change(l[:40], change(t, "join 39 40")); !isZeroPlot(p) || e != api.ErrNone {
		t.Error(toldPlot(p), e)
	}
	if p, e := area.Change(l, change(t, "square 39")); !isZeroPlot(p) || e != api.ErrLong {
		t.Error(toldPlot(p), e)
	}
	if p, e := area.Change(make([]api.Plot, 41), api.AreaChange{}); !isZeroPlot(p) || e != api.ErrLong {
		t.Error(toldPlot(p), e)
	}
	if p, e := area.Change(make([]api.Plot, 40), change(t, "square 40")); !isZeroPlot(p) || e != api.ErrArg {
		t.Error(toldPlot(p), e)
	}
	if p, e := area.Change(nil, change(t, "square 0")); !isZeroPlot(p) || e != api.ErrNone {
		t.Error(toldPlot(p), e)
	}
}

// P4.2: a plot that is not used must be valid, but may have no area.
func TestUnusedPlots(t *testing.T) {
	l := plots(t, "square 1000", "square 2", "oblong 1+r2+r3 1+r5")
	for _, c := range validChanges(t) {
		c.First = 1
		if uses(c.Kind) == "s" {
			c.Second = 1
		}
		_, e := area.Change(l, c)
		if want := map[bool]api.Errno{true: api.ErrRange}[c.Kind == api.ChangeLess]; e != want {
			t.Error(c, e)
		}
	}
}
