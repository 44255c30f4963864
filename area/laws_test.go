package area_test

import (
	"testing"

	"chiti/api"
	"chiti/area"
	"chiti/surd"
)

type result struct {
	x api.Number
	e api.Errno
}

// then goes on with a result, if there is one.
func (r result) then(f func(x, y api.Number) (api.Number, api.Errno), y api.Number) result {
	if r.e != api.OK {
		return r
	}
	x, e := f(r.x, y)
	return result{x, e}
}

// agree counts those pairs of results of which none is refused, and wants them to be the same.
func agree(t *testing.T, count *int, what string, r, s result) {
	t.Helper()
	if r.e != api.OK || s.e != api.OK {
		return
	}
	*count++
	if !same(r.x, s.x) {
		t.Error(what, told(r.x), told(s.x))
	}
}

func areaOf(p api.Plot) result {
	x, e := area.Area(p)
	return result{x, e}
}

// P4.9: plots of runs have the areas that are told; changes keep, add and take away areas.
func TestAreasOfRuns(t *testing.T) {
	next := pseudo()
	count, changed := 0, map[api.ChangeKind]int{}
	for i := range 4000 {
		l, run := someRun(next, []int{2, 5, 9, 30}[i%4])
		made, _, e := area.Run(l, run)
		areas, _, f := area.Areas(l, run)
		if e != api.OK || f != api.OK {
			continue
		}
		if len(made) != len(l)+len(run) || len(areas) != len(made) {
			t.Error(toldPlots(made), toldNumbers(areas))
		}
		for k, p := range made {
			agree(t, &count, "told areas", areaOf(p), result{x: areas[k]})
			if e := area.CheckPlot(p); e != api.OK {
				t.Error(toldPlot(p), e)
			}
		}
		for k, c := range run {
			tries := changed[c.Kind]
			first, got := areaOf(made[c.First]), areaOf(made[len(l)+k])
			switch c.Kind {
			case api.ChangeJoin:
				first = first.then(surd.Add, areas[c.Second])
			case api.ChangeLess:
				first = first.then(surd.Sub, areas[c.Second])
			case api.ChangeTimes:
				first = first.then(surd.Mul, modelPart(c))
			}
			agree(t, &tries, toldPlots(made), first, got)
			changed[c.Kind] = tries
		}
	}
	for kind := api.ChangeSquare; kind <= api.ChangeTimes; kind++ {
		if changed[kind] < 100 {
			t.Error("only so many were tried:", kind, changed[kind])
		}
	}
	if count < 10000 {
		t.Error("only so many were tried:", count)
	}
}

// P4.9: what is made has the kind and the sides that the change tells.
func TestKindsOfChanges(t *testing.T) {
	next := pseudo()
	kinds := []api.PlotKind{0, api.PlotSquare, api.PlotOblong, api.PlotTriangle, api.PlotRhomb, api.PlotTrapezium, api.PlotSquare, api.PlotSquare, api.PlotSquare}
	for range 4000 {
		l, run := someRun(next, 9)
		made, _, _ := area.Run(l, run)
		for i, c := range run {
			if len(made) == 0 {
				break
			}
			p := made[len(l)+i]
			if p.Kind != kinds[c.Kind] || !isZero(c.X) && !same(p.A, c.X) {
				t.Error(c, toldPlot(p))
			}
			if c.Kind == api.ChangeTrapezium {
				n := 0
				agree(t, &n, "the other side", result{x: p.A}.then(surd.Mul, modelPart(c)), result{x: p.B})
			}
		}
	}
}

// P4.9: of two areas that are joined, one is taken away, and the other one is left.
func TestJoinAndLess(t *testing.T) {
	next := pseudo()
	count := 0
	for i := range 4000 {
		l := []api.Plot{somePlot(next, 1, 1+i%9), somePlot(next, 1, 1+i%7)}
		run := changes(t, "join 0 1,less 2 0,less 2 1,")
		made, _, e := area.Run(l, run)
		if e != api.OK {
			continue
		}
		agree(t, &count, "without the first one", areaOf(made[3]), areaOf(made[1]))
		agree(t, &count, "without the second one", areaOf(made[4]), areaOf(made[0]))
		areas, _, e := area.Areas(l, run)
		if e != api.OK || !same(areas[3], areas[1]) || !same(areas[4], areas[0]) {
			t.Error(toldPlots(l), toldNumbers(areas), e)
		}
	}
	if count < 1000 {
		t.Error("only so many were tried:", count)
	}
}

// P4.10: areas of what is scaled are multiplied by the square of the factor.
func TestScaledAreas(t *testing.T) {
	next := pseudo()
	plots, plans := 0, 0
	for i := range 6000 {
		f := someSide(next, 1+i%2, 1+i%9)
		p := somePlot(next, 1+i%2, 1+i%7)
		if scaled, e := area.Scale(p, f); e == api.OK {
			agree(t, &plots, "a plot", areaOf(scaled), areaOf(p).then(surd.Mul, f).then(surd.Mul, f))
		}
		l := somePlan(next, 3+next(6), 1+i%2, 1+i%7)
		if scaled, e := area.ScalePlan(l, f); e == api.OK {
			agree(t, &plans, "a plan", planArea(scaled), planArea(l).then(surd.Mul, f).then(surd.Mul, f))
		}
	}
	if plots < 1000 || plans < 1000 {
		t.Error("only so many were tried:", plots, plans)
	}
}

func planArea(l []api.Point) result {
	x, e := area.PlanArea(l)
	return result{x, e}
}

// P4.10: scaled by Factor, a plot with the first area has the area of the year, and factors from year to year are multiplied.
func TestFactors(t *testing.T) {
	next := pseudo()
	grown, multiplied, undone := 0, 0, 0
	for i := range 30000 {
		p, by := somePlot(next, 1, 1+i%6), integer(next(4))
		if i%2 == 0 {
			by = someSide(next, 1+i%3, 1+i%4)
		}
		first := areaOf(p)
		years := [3]int{0, next(6), next(40)}
		if first.e != api.OK {
			continue
		}
		factor := func(from, to int) result {
			x, e := area.Factor(first.x, by, years[from], years[to])
			return result{x, e}
		}
		if f := factor(0, 1); f.e == api.OK {
			if scaled, e := area.Scale(p, f.x); e == api.OK {
				x, e := area.Grow(first.x, by, years[1])
				agree(t, &grown, "a plot that grows", areaOf(scaled), result{x, e})
			}
			if more := factor(1, 2); more.e == api.OK {
				agree(t, &multiplied, "two times", f.then(surd.Mul, more.x), factor(0, 2))
			}
			if back := factor(1, 0); back.e == api.OK {
				agree(t, &undone, "to and fro", f.then(surd.Mul, back.x), result{x: integer(1)})
			}
		}
	}
	if grown < 1000 || multiplied < 1000 || undone < 1000 {
		t.Error("only so many were tried:", grown, multiplied, undone)
	}
}

// P4.10: a plan that is moved, that begins at another point, or that is told the other way round, has the same area.
func TestMovedPlans(t *testing.T) {
	next := pseudo()
	moved, begun := 0, 0
	for i := range 4000 {
		l := somePlan(next, 3+next(8), 1+i%2, 1+i%9)
		to := somePlan(next, 1, 1+i%2, 9)[0]
		var other []api.Point
		e := caught(func() {
			for _, p := range l {
				other = append(other, api.Point{X: must(surd.Add(p.X, to.X)), Y: must(surd.Add(p.Y, to.Y))})
			}
		})
		if e == api.OK {
			agree(t, &moved, "moved", planArea(other), planArea(l))
		}
		k := next(len(l))
		turned := append(append([]api.Point{}, l[k:]...), l[:k]...)
		agree(t, &begun, "begun at another point", planArea(turned), planArea(l))
		for a, b := 0, len(turned)-1; a < b; a, b = a+1, b-1 {
			turned[a], turned[b] = turned[b], turned[a]
		}
		agree(t, &begun, "the other way round", planArea(turned), planArea(l))
		if x := planArea(l); x.e == api.OK {
			if sign, _ := surd.Sign(x.x); sign < 0 {
				t.Error("below 0", toldPlan(l), told(x.x))
			}
		}
	}
	if moved < 1000 || begun < 1000 {
		t.Error("only so many were tried:", moved, begun)
	}
}
