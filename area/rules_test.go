package area_test

import (
	"slices"
	"testing"

	"chiti/api"
	"chiti/area"
	"chiti/surd"
)

// wildNumbers returns numbers of every kind, most of them invalid.
func wildNumbers() []api.Number {
	l := []api.Number{
		{}, {Terms: []api.Term{}}, {Den: 1}, {Den: -1}, {Den: 2}, {Den: 1, Terms: make([]api.Term, 1<<16)},
		{Den: 1, Terms: []api.Term{{Coef: 1, Root: 2}, {Coef: 1, Root: 1}}},
		{Den: 99999, Terms: []api.Term{{Coef: 100000, Root: 991}, {Coef: -100000, Root: 994}, {Coef: 100000, Root: 995}, {Coef: -99998, Root: 997}}},
		{Den: 99999, Terms: []api.Term{{Coef: -99998, Root: 1}, {Coef: 100000, Root: 2}}},
		{Den: 1, Terms: []api.Term{{Coef: 2, Root: 1}, {Coef: 1, Root: 2}, {Coef: 1, Root: 3}}},
		{Den: 1, Terms: []api.Term{{Coef: 1, Root: 2}}}, {Den: 1, Terms: []api.Term{{Coef: 3, Root: 1}, {Coef: 2, Root: 2}}}, {Den: 2, Terms: []api.Term{{Coef: 5, Root: 1}}},
	}
	for _, n := range extremes() {
		l = append(l, api.Number{Den: n, Terms: []api.Term{{Coef: 1, Root: 1}}}, api.Number{Den: 1, Terms: []api.Term{{Coef: n, Root: 1}}}, api.Number{Den: 3, Terms: []api.Term{{Coef: 1, Root: n}}})
	}
	return l
}

// isResult reports whether a number is valid without an error, or zero with one.
func isResult(x api.Number, e api.Errno) bool {
	return e == api.OK && isValid(x) || e != api.OK && isZero(x)
}

func isPlotResult(p api.Plot, e api.Errno) bool {
	return e == api.OK && area.CheckPlot(p) == api.OK || e != api.OK && isZeroPlot(p)
}

// P1: no function with plots panics, and with an error every other result is zero.
func TestWildPlots(t *testing.T) {
	next := pseudo()
	numbers := wildNumbers()
	wild := func() api.Number { return numbers[next(len(numbers))] }
	integer := func() int { return extremes()[next(len(extremes()))] }
	few := func() int { return next(5) - next(2) }
	for range 40000 {
		p := api.Plot{Kind: api.PlotKind(1 + next(5)), A: wild(), B: wild(), C: wild()}
		for i := range 3 {
			if i >= numbersOf(p.Kind) && next(8) > 0 {
				p = with(p, i, api.Number{})
			}
		}
		if next(30) == 0 {
			p.Kind = api.PlotKind(integer())
		}
		if x, e := area.Area(p); !isResult(x, e) || (area.CheckPlot(p) == api.ErrArg) != (e == api.ErrArg) {
			t.Error("Area", p, x, e)
		}
		if q, e := area.Scale(p, wild()); !isPlotResult(q, e) {
			t.Error("Scale", p, q, e)
		}
		c := someChange(next, 4, 2, 9)
		switch next(4) {
		case 0:
			c = api.AreaChange{Kind: api.ChangeKind(integer()), First: few(), Second: few(), X: wild(), Num: integer(), Den: integer()}
		case 1:
			c.First, c.Second = integer(), integer()
		case 2:
			c.X = wild()
		}
		l := []api.Plot{p, somePlot(next, 2, 9), somePlot(next, 1, 100000)}[next(3):]
		if q, e := area.Change(l, c); !isPlotResult(q, e) {
			t.Error("Change", l, c, q, e)
		}
		run := []api.AreaChange{someChange(next, len(l), 1, 5), c, c}
		made, at, e := area.Run(l, run)
		if e != api.OK && (len(made) != 0 || at < 0 || at >= len(run)) || e == api.OK && (len(made) != len(l)+3 || at != 0) {
			t.Error("Run", l, run, made, at, e)
		}
		areas, at, e := area.Areas(l, run)
		if e != api.OK && (len(areas) != 0 || at < 0 || at >= len(run)) || e == api.OK && (len(areas) != len(l)+3 || at != 0) {
			t.Error("Areas", l, run, areas, at, e)
		}
	}
}

// P1: no function with numbers, plans or ways panics, and with an error every other result is zero.
func TestWildNumbers(t *testing.T) {
	next := pseudo()
	numbers := wildNumbers()
	for _, x := range numbers {
		for _, y := range numbers {
			from, to := extremes()[next(len(extremes()))], extremes()[next(len(extremes()))]
			if z, e := area.Grow(x, y, from); !isResult(z, e) {
				t.Error("Grow", x, y, from, z, e)
			}
			if z, e := area.Factor(x, y, from, to); !isResult(z, e) {
				t.Error("Factor", x, y, from, to, z, e)
			}
			z := numbers[next(len(numbers))]
			l := []api.Point{{X: x, Y: z}, {X: y, Y: x}, {X: z, Y: y}}
			if z, e := area.PlanArea(l); !isResult(z, e) {
				t.Error("PlanArea", l, z, e)
			}
			m, e := area.ScalePlan(l, z)
			if e != api.OK && len(m) != 0 || e == api.OK && len(m) != 3 {
				t.Error("ScalePlan", l, z, m, e)
			}
		}
	}
	for _, a := range extremes() {
		for _, b := range extremes() {
			from, to := [2]int{a, b}, [2]int{b, a}
			for _, most := range extremes() {
				l, e := area.Ways(from, to, most)
				k, f := area.Ways([2]int{2, 1}, to, most)
				if e != api.OK && len(l) != 0 || f != api.OK && len(k) != 0 || len(l) > api.MaxWay || len(k) > api.MaxWay {
					t.Error("Ways", from, to, most, l, e, k, f)
				}
			}
		}
	}
	if _, e := area.PlanArea(make([]api.Point, 1<<20)); e != api.ErrLong {
		t.Error(e)
	}
	if _, e := area.Change(make([]api.Plot, 1<<20), api.AreaChange{}); e != api.ErrLong {
		t.Error(e)
	}
}

// R3: a nil list and an empty one are the same, also in the zero value of a number.
func TestNilAndEmpty(t *testing.T) {
	none, zero := api.Number{Terms: []api.Term{}}, api.Number{Den: 1, Terms: []api.Term{}}
	p := plot(t, "square 2")
	p.B, p.C = none, none
	if e := area.CheckPlot(p); e != api.OK {
		t.Error(e)
	}
	if x, e := area.Area(p); told(x) != "4" || e != api.OK {
		t.Error(told(x), e)
	}
	c := api.AreaChange{Kind: api.ChangeSquare, X: none}
	if q, e := area.Change([]api.Plot{p}, c); toldPlot(q) != "square 2" || e != api.OK {
		t.Error(toldPlot(q), e)
	}
	if l, at, e := area.Run([]api.Plot{p}, []api.AreaChange{}); toldPlots(l) != "square 2," || at != 0 || e != api.OK {
		t.Error(toldPlots(l), at, e)
	}
	if l, at, e := area.Run([]api.Plot{}, []api.AreaChange{}); len(l) != 0 || at != 0 || e != api.OK {
		t.Error(toldPlots(l), at, e)
	}
	if l, at, e := area.Areas([]api.Plot{}, []api.AreaChange{}); len(l) != 0 || at != 0 || e != api.OK {
		t.Error(toldNumbers(l), at, e)
	}
	if q, e := area.Scale(p, num(t, "r2")); toldPlot(q) != "square 2r2" || e != api.OK {
		t.Error(toldPlot(q), e)
	}
	if x, e := area.Grow(num(t, "1"), zero, 5); told(x) != "1" || e != api.OK {
		t.Error(told(x), e)
	}
	if x, e := area.Grow(num(t, "1"), api.Number{Den: 1}, 5); told(x) != "1" || e != api.OK {
		t.Error(told(x), e)
	}
	if l, e := area.ScalePlan([]api.Point{}, num(t, "2")); len(l) != 0 || e != api.OK {
		t.Error(toldPlan(l), e)
	}
	if _, e := area.PlanArea([]api.Point{}); e != api.ErrForm {
		t.Error(e)
	}
	if x, e := area.PlanArea([]api.Point{{X: zero, Y: zero}, {X: zero, Y: api.Number{Den: 1}}, {X: api.Number{Den: 1}, Y: zero}}); told(x) != "0" || e != api.OK {
		t.Error(told(x), e)
	}
}

// roomy returns a copy of a number with room behind its terms, which an append would take.
func roomy(x api.Number) api.Number {
	return api.Number{Den: x.Den, Terms: append(make([]api.Term, 0, 8), x.Terms...)}
}

func roomyPlot(p api.Plot) api.Plot {
	return api.Plot{Kind: p.Kind, A: roomy(p.A), B: roomy(p.B), C: roomy(p.C)}
}

// scribble writes over the terms of numbers, and over the spare room behind them.
func scribble(numbers ...api.Number) {
	for _, x := range numbers {
		terms := x.Terms[:cap(x.Terms)]
		for i := range terms {
			terms[i] = api.Term{Coef: -9, Root: -9}
		}
	}
}

func numbersOfPlots(l ...api.Plot) []api.Number {
	var all []api.Number
	for _, p := range l {
		all = append(all, p.A, p.B, p.C)
	}
	return all
}

func numbersOfPlan(l []api.Point) []api.Number {
	var all []api.Number
	for _, p := range l {
		all = append(all, p.X, p.Y)
	}
	return all
}

// R4: no call changes a number of an argument, and no result shares memory with it, nor two of its numbers with each other.
func TestMemory(t *testing.T) {
	calls := []func(l []api.Plot, x, y api.Number) []api.Number{
		func(l []api.Plot, x, y api.Number) []api.Number { z, _ := area.Area(l[0]); return []api.Number{z} },
		func(l []api.Plot, x, y api.Number) []api.Number { z, _ := area.Area(l[1]); return []api.Number{z} },
		func(l []api.Plot, x, y api.Number) []api.Number {
			m, _, _ := area.Run(l, nil)
			return numbersOfPlots(m...)
		},
		func(l []api.Plot, x, y api.Number) []api.Number {
			run := []api.AreaChange{{Kind: api.ChangeOblong, X: x}, {Kind: api.ChangeTriangle, First: 1, X: x}, {Kind: api.ChangeRhomb, First: 3, X: x}, {Kind: api.ChangeTrapezium, First: 3, X: x, Num: 1, Den: 1}, {Kind: api.ChangeSquare}, {Kind: api.ChangeTimes, Num: 1, Den: 1}, {Kind: api.ChangeJoin, Second: 1}, {Kind: api.ChangeLess, First: 9, Second: 1}}
			m, _, _ := area.Run(l, run)
			areas, _, _ := area.Areas(l, run)
			return append(numbersOfPlots(m...), areas...)
		},
		func(l []api.Plot, x, y api.Number) []api.Number {
			var all []api.Number
			for kind := api.ChangeSquare; kind <= api.ChangeTimes; kind++ {
				c := api.AreaChange{Kind: kind}
				switch uses(kind) {
				case "xn":
					c.X, c.Num, c.Den = x, 2, 2
				case "x":
					c.X = x
				case "s":
					c.First, c.Second = 1, 0
				case "n":
					c.Num, c.Den = 3, 3
				}
				p, _ := area.Change(l, c)
				all = append(all, p.A, p.B, p.C)
			}
			return all
		},
		func(l []api.Plot, x, y api.Number) []api.Number {
			p, _ := area.Scale(l[1], x)
			return numbersOfPlots(p)
		},
		func(l []api.Plot, x, y api.Number) []api.Number {
			p, _ := area.Scale(l[2], x)
			return numbersOfPlots(p)
		},
		func(l []api.Plot, x, y api.Number) []api.Number {
			m, _ := area.ScalePlan([]api.Point{{X: x, Y: y}, {X: y, Y: y}, {X: x, Y: x}}, x)
			return numbersOfPlan(m)
		},
		func(l []api.Plot, x, y api.Number) []api.Number {
			z, _ := area.PlanArea([]api.Point{{X: x, Y: y}, {X: y, Y: x}, {X: x, Y: x}})
			return []api.Number{z}
		},
		func(l []api.Plot, x, y api.Number) []api.Number { z, _ := area.Grow(x, y, 0); return []api.Number{z} },
		func(l []api.Plot, x, y api.Number) []api.Number { z, _ := area.Grow(y, x, 1); return []api.Number{z} },
		func(l []api.Plot, x, y api.Number) []api.Number {
			z, _ := area.Factor(x, y, 0, 1)
			return []api.Number{z}
		},
		func(l []api.Plot, x, y api.Number) []api.Number {
			z, _ := area.Factor(x, y, 3, 3)
			return []api.Number{z}
		},
	}
	for i, call := range calls {
		for _, c := range [][2]string{{"1", "0"}, {"1", "1"}, {"2", "3"}, {"r2", "1+r2"}, {"1", "r3"}} {
			texts := []string{"square 1", "oblong 1 5", "trapezium 1 3 r5"}
			l := []api.Plot{}
			for _, s := range texts {
				l = append(l, roomyPlot(plot(t, s)))
			}
			x, y := roomy(num(t, c[0])), roomy(num(t, c[1]))
			got := call(l, x, y)
			before := toldNumbers(got)
			if toldPlots(l) != toldPlots(plots(t, texts...)) || told(x) != c[0] || told(y) != c[1] {
				t.Error("changed", i, c, toldPlots(l), told(x), told(y))
			}
			scribble(append(numbersOfPlots(l...), x, y)...)
			if toldNumbers(got) != before {
				t.Error("shared with an argument", i, c, toldNumbers(got), before)
			}
			for k := range got {
				after := toldNumbers(got[k+1:])
				scribble(got[k])
				if toldNumbers(got[k+1:]) != after {
					t.Error("shared with each other", i, c, k, before)
				}
			}
		}
	}
}

// R4: spare room behind lists that are given is not written to, and lists stay as they are.
func TestMemoryOfLists(t *testing.T) {
	l := append(make([]api.Plot, 0, 9), plots(t, "square 1", "square 2")...)
	run := append(make([]api.AreaChange, 0, 9), changes(t, "join 0 1,times 1 2/1,")...)
	points := append(make([]api.Point, 0, 9), plan(t, "0 0", "1 0", "0 1")...)
	made, _, _ := area.Run(l, run)
	area.Areas(l, run)
	area.Change(l, run[0])
	area.PlanArea(points)
	scaled, _ := area.ScalePlan(points, num(t, "2"))
	if toldPlots(l) != "square 1,square 2," || run[1].Num != 2 || toldPlan(points) != "0 0,1 0,0 1," {
		t.Error(toldPlots(l), run, toldPlan(points))
	}
	if l[:3][2].Kind != 0 || run[:3][2].Kind != 0 || points[:4][3].X.Den != 0 {
		t.Error("written behind a list")
	}
	made[0].Kind, scaled[0].X.Den = 7, 7
	if l[0].Kind != api.PlotSquare || points[0].X.Den != 1 {
		t.Error("shared", l, points)
	}
	ways, _ := area.Ways([2]int{1, 1}, [2]int{3, 4}, 5)
	ways[0] = 6
	if again, _ := area.Ways([2]int{1, 1}, [2]int{3, 4}, 5); !slices.Equal(again, []api.AreaOp{2, 2, 3}) {
		t.Error(again)
	}
}

// R5: what the numbers of a plot are is decided exactly, however near they are to 0.
func TestNearZero(t *testing.T) {
	for _, c := range []struct {
		x    string
		sign int
	}{{"(577-408r2)/408", 1}, {"(-577+408r2)/408", -1}, {"(47321-33461r2)/33461", -1}, {"(-47321+33461r2)/33461", 1}} {
		x := num(t, c.x)
		if sign, _ := surd.Sign(x); sign != c.sign {
			t.Error(c)
		}
		want, wantRange := api.ErrArg, api.ErrRange
		if c.sign > 0 {
			want, wantRange = api.OK, api.OK
		}
		if e := area.CheckPlot(api.Plot{Kind: api.PlotSquare, A: x}); e != want {
			t.Error(c, e)
		}
		if _, e := area.Grow(x, x, 0); e != wantRange {
			t.Error(c, e)
		}
		if _, e := area.ScalePlan(nil, x); e != wantRange {
			t.Error(c, e)
		}
	}
}
