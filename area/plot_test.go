package area_test

import (
	"math"
	"testing"

	"chiti/api"
	"chiti/area"
)

// P4.1: the areas of plots.
func TestArea(t *testing.T) {
	for _, c := range []struct{ plot, area string }{
		{"square 1", "1"},
		{"square 2", "4"},
		{"square 1/2", "1/4"},
		{"square r2", "2"},
		{"square 1+r2", "3+2r2"},
		{"square (-1+r5)/2", "(3-r5)/2"},
		{"oblong 1 5", "5"},
		{"oblong 1 1+r2", "1+r2"},
		{"oblong 3/2 r3", "3r3/2"},
		{"oblong 100000 1", "100000"},
		{"triangle 3 5", "15/2"},
		{"triangle 4 3", "6"},
		{"triangle r2 r2", "1"},
		{"rhomb 4 r2", "2r2"},
		{"rhomb 3 5", "15/2"},
		{"trapezium 24 30 36", "972"},
		{"trapezium 30 24 36", "972"},
		{"trapezium 1 2 3", "9/2"},
		{"trapezium 1 1 1", "1"},
		{"trapezium 1+r2 2-r2 r3", "3r3/2"},
		// Both products would have too many terms, but not the sum.
		{"trapezium 12-r2-r3 12+r2+r3 r5+r7", "12r5+12r7"},
	} {
		p := plot(t, c.plot)
		x, e := area.Area(p)
		if told(x) != c.area || e != api.OK {
			t.Error(c.plot, told(x), e)
		}
		if e := area.CheckPlot(p); e != api.OK {
			t.Error(c.plot, e)
		}
	}
}

// P4.1: a valid plot may have an area that is refused, by the first error on its way.
func TestAreaErrors(t *testing.T) {
	for _, c := range []struct {
		plot string
		e    api.Errno
	}{
		{"square 1000", api.ErrOver},
		{"square 1/400", api.ErrOver},
		{"square 100000r997", api.ErrOver},
		{"square 1+r2+r3+r5", api.ErrFull},
		{"oblong 1000 101", api.ErrOver},
		{"oblong 1+r2+r3 1+r5", api.ErrFull},
		// The half of it would not be too great.
		{"triangle 1000 101", api.ErrOver},
		{"rhomb 1000 101", api.ErrOver},
		{"trapezium 500 500 101", api.ErrOver},
		// The half of it is too fine.
		{"triangle 1/99999 1", api.ErrOver},
		{"rhomb 1/99999 1", api.ErrOver},
		{"triangle 1+r2+r3 1+r5", api.ErrFull},
		{"rhomb 1+r2+r3 1+r5", api.ErrFull},
		{"trapezium 99999 2 1/100000", api.ErrOver},
		{"trapezium 1+r2+r3 r5+r7 1", api.ErrFull},
		{"trapezium 1+r2 1+r3 1+r5", api.ErrFull},
		// Of the sum and the product, the sum is refused first.
		{"trapezium 100000+r2 100000+r3 r5+r7", api.ErrOver},
		{"trapezium 1+r2+r3 r5+r7 100000", api.ErrFull},
	} {
		p := plot(t, c.plot)
		if x, e := area.Area(p); !isZero(x) || e != c.e {
			t.Error(c.plot, x, e)
		}
		if e := area.CheckPlot(p); e != api.OK {
			t.Error(c.plot, e)
		}
	}
}

func invalidPlots(t *testing.T) []api.Plot {
	t.Helper()
	one, zero := num(t, "1"), num(t, "0")
	l := []api.Plot{
		{},
		{A: one},
		{A: one, B: one, C: one},
		{Kind: 6, A: one},
		{Kind: 6, A: one, B: one},
		{Kind: 6, A: one, B: one, C: one},
		{Kind: -1, A: one},
		{Kind: math.MaxInt, A: one},
		{Kind: math.MinInt, A: one},
		{Kind: math.MinInt + 1, A: one},
	}
	wrong := []api.Number{{}, zero, num(t, "-1"), num(t, "1-r2"), num(t, "no"), {Den: 1, Terms: []api.Term{{Coef: 1, Root: 4}}}, {Terms: one.Terms}, {Den: -1, Terms: one.Terms}}
	more := []api.Number{one, zero, num(t, "no"), {Terms: one.Terms}, {Den: 1}, {Den: -1}, {Den: math.MinInt}}
	for kind := api.PlotSquare; kind <= api.PlotTrapezium; kind++ {
		for i := range 3 {
			for _, x := range wrong {
				if i < numbersOf(kind) {
					l = append(l, with(valid(kind, one), i, x))
				}
			}
			for _, x := range more {
				if i >= numbersOf(kind) {
					l = append(l, with(valid(kind, one), i, x))
				}
			}
		}
	}
	return l
}

// numbersOf returns how many numbers plots of a kind have.
func numbersOf(k api.PlotKind) int { return []int{0, 1, 2, 2, 2, 3}[k] }

// valid returns the plot of a kind all of whose numbers are x.
func valid(k api.PlotKind, x api.Number) api.Plot {
	p := api.Plot{Kind: k}
	for i := range numbersOf(k) {
		p = with(p, i, x)
	}
	return p
}

// with returns a plot with another number at a place.
func with(p api.Plot, i int, x api.Number) api.Plot {
	switch i {
	case 0:
		p.A = x
	case 1:
		p.B = x
	case 2:
		p.C = x
	}
	return p
}

// P4.1: what is no valid plot: another kind, a number that is missing, not valid or not above 0, or one too many.
func TestInvalidPlots(t *testing.T) {
	for kind := api.PlotSquare; kind <= api.PlotTrapezium; kind++ {
		if e := area.CheckPlot(valid(kind, num(t, "-1+r2"))); e != api.OK {
			t.Error(kind, e)
		}
	}
	l := invalidPlots(t)
	if len(l) < 100 {
		t.Error("only so many:", len(l))
	}
	for i, p := range l {
		if e := area.CheckPlot(p); e != api.ErrArg {
			t.Error("CheckPlot", i, p, e)
		}
		if x, e := area.Area(p); !isZero(x) || e != api.ErrArg {
			t.Error("Area", i, p, x, e)
		}
		if q, e := area.Change([]api.Plot{plot(t, "square 1"), p}, change(t, "square 0")); q.Kind != 0 || e != api.ErrArg {
			t.Error("Change", i, p, q, e)
		}
		if m, at, e := area.Run([]api.Plot{plot(t, "square 1"), p}, nil); len(m) != 0 || at != 0 || e != api.ErrArg {
			t.Error("Run", i, p, m, at, e)
		}
		if m, at, e := area.Areas([]api.Plot{plot(t, "square 1"), p}, nil); len(m) != 0 || at != 0 || e != api.ErrArg {
			t.Error("Areas", i, p, m, at, e)
		}
		if q, e := area.Scale(p, num(t, "1")); q.Kind != 0 || e != api.ErrArg {
			t.Error("Scale", i, p, q, e)
		}
	}
}
