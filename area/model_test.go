package area_test

import (
	"testing"

	"chiti/api"
	"chiti/area"
	"chiti/surd"
)

// must returns a number, or stops by a panic with its error.
func must(x api.Number, e api.Errno) api.Number {
	if e != api.OK {
		panic(e)
	}
	return x
}

// caught returns the error with which what is done stops.
func caught(do func()) (e api.Errno) {
	defer func() {
		if stopped, is := recover().(api.Errno); is {
			e = stopped
		}
	}()
	do()
	return api.OK
}

// modelArea, and what follows, compute as the chapter tells it, word by word, with valid arguments.
func modelArea(p api.Plot) api.Number {
	switch p.Kind {
	case api.PlotSquare:
		return must(surd.Mul(p.A, p.A))
	case api.PlotOblong:
		return must(surd.Mul(p.A, p.B))
	case api.PlotTrapezium:
		both := must(surd.Add(p.A, p.B))
		twice := must(surd.Mul(both, p.C))
		return must(surd.Quo(twice, integer(2)))
	}
	return must(surd.Quo(must(surd.Mul(p.A, p.B)), integer(2)))
}

func modelPart(c api.AreaChange) api.Number {
	return must(surd.Make(c.Den, []api.Term{{Coef: c.Num, Root: 1}}))
}

func modelLess(s, t api.Number) api.Number {
	if order, _ := surd.Compare(s, t); order <= 0 {
		panic(api.ErrRange)
	}
	return must(surd.Sub(s, t))
}

func modelChange(l []api.Plot, c api.AreaChange) api.Plot {
	s := modelArea(l[c.First])
	switch c.Kind {
	case api.ChangeSquare:
		return api.Plot{Kind: api.PlotSquare, A: must(surd.Root(s))}
	case api.ChangeOblong:
		return api.Plot{Kind: api.PlotOblong, A: c.X, B: must(surd.Quo(s, c.X))}
	case api.ChangeTriangle:
		twice := must(surd.Mul(s, integer(2)))
		return api.Plot{Kind: api.PlotTriangle, A: c.X, B: must(surd.Quo(twice, c.X))}
	case api.ChangeRhomb:
		twice := must(surd.Mul(s, integer(2)))
		return api.Plot{Kind: api.PlotRhomb, A: c.X, B: must(surd.Quo(twice, c.X))}
	case api.ChangeTrapezium:
		y := must(surd.Mul(c.X, modelPart(c)))
		twice := must(surd.Mul(s, integer(2)))
		both := must(surd.Add(c.X, y))
		return api.Plot{Kind: api.PlotTrapezium, A: c.X, B: y, C: must(surd.Quo(twice, both))}
	case api.ChangeJoin:
		t := modelArea(l[c.Second])
		sum := must(surd.Add(s, t))
		return api.Plot{Kind: api.PlotSquare, A: must(surd.Root(sum))}
	case api.ChangeLess:
		rest := modelLess(s, modelArea(l[c.Second]))
		return api.Plot{Kind: api.PlotSquare, A: must(surd.Root(rest))}
	}
	part := must(surd.Mul(s, modelPart(c)))
	return api.Plot{Kind: api.PlotSquare, A: must(surd.Root(part))}
}

func modelNextArea(areas []api.Number, c api.AreaChange) api.Number {
	s := areas[c.First]
	switch c.Kind {
	case api.ChangeJoin:
		return must(surd.Add(s, areas[c.Second]))
	case api.ChangeLess:
		return modelLess(s, areas[c.Second])
	case api.ChangeTimes:
		return must(surd.Mul(s, modelPart(c)))
	}
	return s
}

func modelGrow(first, by api.Number, year int) api.Number {
	more := must(surd.Mul(by, integer(year)))
	return must(surd.Add(first, more))
}

func modelPlanArea(l []api.Point) api.Number {
	sum := integer(0)
	for i, p := range l {
		q := l[0]
		if i+1 < len(l) {
			q = l[i+1]
		}
		one := must(surd.Mul(p.X, q.Y))
		other := must(surd.Mul(q.X, p.Y))
		both := must(surd.Sub(one, other))
		sum = must(surd.Add(sum, both))
	}
	sum = must(surd.Quo(sum, integer(2)))
	if sign, _ := surd.Sign(sum); sign < 0 {
		sum = must(surd.Sub(integer(0), sum))
	}
	return sum
}

// sideTexts returns numbers of many forms: with many and with great terms, so that results are refused in many ways.
func sideTexts() []string {
	return []string{"1", "1", "2", "3", "1/2", "r2", "r2/2", "1+r2", "3+2r2", "r3+r5+r6", "1+r2+r3", "r5+r7", "1+r2+r3+r5", "300", "1/400", "60000", "100r2", "500r3", "1/99999", "100000", "-1+r2", "12-r2-r3", "r11+r13"}
}

func sideOf(t *testing.T, next func(n int) int) api.Number {
	t.Helper()
	texts := sideTexts()
	return num(t, texts[next(len(texts))])
}

// refused counts the errors of calls by kinds of arguments.
type refused map[int]map[api.Errno]int

func (r refused) add(kind int, e api.Errno) {
	if r[kind] == nil {
		r[kind] = map[api.Errno]int{}
	}
	r[kind][e]++
}

func (r refused) want(t *testing.T, kind, times int, errors ...api.Errno) {
	t.Helper()
	for _, e := range errors {
		if r[kind][e] < times {
			t.Error("only so many of the kind", kind, "with the error", e, "were tried:", r[kind][e])
		}
	}
}

func plotOfSides(t *testing.T, next func(n int) int) api.Plot {
	p := api.Plot{Kind: api.PlotKind(1 + next(5)), A: sideOf(t, next)}
	if p.Kind > api.PlotSquare {
		p.B = sideOf(t, next)
	}
	if p.Kind == api.PlotTrapezium {
		p.C = sideOf(t, next)
	}
	return p
}

// P4.1: areas, and the first one of several errors, are those of the chapter's own words.
func TestAreaAsTold(t *testing.T) {
	next := pseudo()
	seen := refused{}
	for i := range 20000 {
		p := plotOfSides(t, next)
		if i%2 == 0 {
			p = somePlot(next, 3, []int{3, 30, 1000, 100000}[i/2%4])
		}
		var want api.Number
		wantError := caught(func() { want = modelArea(p) })
		x, e := area.Area(p)
		if !same(x, want) || e != wantError {
			t.Fatal(toldPlot(p), x, e, want, wantError)
		}
		seen.add(int(p.Kind), e)
	}
	for kind := api.PlotSquare; kind <= api.PlotTrapezium; kind++ {
		seen.want(t, int(kind), 50, api.OK, api.ErrOver)
		if kind > api.PlotSquare {
			seen.want(t, int(kind), 50, api.ErrFull)
		}
	}
}

func samePlot(p, q api.Plot) bool {
	return p.Kind == q.Kind && same(p.A, q.A) && same(p.B, q.B) && same(p.C, q.C)
}

// P4.2: the plots of changes, and the first one of several errors, are those of the chapter's own words.
func TestChangeAsTold(t *testing.T) {
	next := pseudo()
	seen := refused{}
	for i := range 60000 {
		size := []int{3, 30, 1000, 100000}[i/2%4]
		l := []api.Plot{plotOfSides(t, next), somePlot(next, 1+i%2, size), plotOfSides(t, next), somePlot(next, 1, size)}
		c := someChange(next, len(l), 3, size)
		if i%2 == 0 && !isZero(c.X) {
			c.X = sideOf(t, next)
		}
		var want api.Plot
		wantError := caught(func() { want = modelChange(l, c) })
		p, e := area.Change(l, c)
		if !samePlot(p, want) || e != wantError {
			t.Fatal(toldPlots(l), c, p, e, want, wantError)
		}
		seen.add(int(c.Kind), e)
	}
	for kind := api.ChangeSquare; kind <= api.ChangeTimes; kind++ {
		seen.want(t, int(kind), 50, api.OK, api.ErrOver, api.ErrFull, api.ErrSurd)
	}
	seen.want(t, int(api.ChangeLess), 500, api.ErrRange)
}

// runOf carries out changes by the model, as long as none is refused.
func runOf(l []api.Plot, changes []api.AreaChange) (made []api.Plot, at int, e api.Errno) {
	made = append(made, l...)
	for i, c := range changes {
		if e := caught(func() { made = append(made, modelChange(made, c)) }); e != api.OK {
			return nil, i, e
		}
	}
	return made, 0, api.OK
}

func areasOf(l []api.Plot, changes []api.AreaChange) (areas []api.Number, at int, e api.Errno) {
	for _, p := range l {
		if e := caught(func() { areas = append(areas, modelArea(p)) }); e != api.OK {
			return nil, 0, e
		}
	}
	for i, c := range changes {
		if e := caught(func() { areas = append(areas, modelNextArea(areas, c)) }); e != api.OK {
			return nil, i, e
		}
	}
	return areas, 0, api.OK
}

// someRun returns plots and changes of them of which few are refused: each one that is refused is tried only at the end.
func someRun(next func(n int) int, size int) (l []api.Plot, run []api.AreaChange) {
	for range 1 + next(4) {
		l = append(l, somePlot(next, 1+next(2), size))
	}
	for range 8 {
		c := someChange(next, len(l)+len(run), 1+next(2), size)
		if _, _, e := runOf(l, append(run[:len(run):len(run)], c)); e == api.OK || next(8) == 0 {
			run = append(run, c)
			if e != api.OK {
				break
			}
		}
	}
	return l, run
}

// P4.3 and P4.4: runs and areas, and the places of their errors, are those of the chapter's own words.
func TestRunAsTold(t *testing.T) {
	next := pseudo()
	seen := refused{}
	for i := range 4000 {
		l, run := someRun(next, []int{2, 5, 20, 300}[i%4])
		made, at, e := area.Run(l, run)
		want, wantAt, wantError := runOf(l, run)
		if toldPlots(made) != toldPlots(want) || at != wantAt || e != wantError {
			t.Fatal(toldPlots(l), run, toldPlots(made), at, e, toldPlots(want), wantAt, wantError)
		}
		areas, where, f := area.Areas(l, run)
		wantAreas, wantAt, wantError := areasOf(l, run)
		if toldNumbers(areas) != toldNumbers(wantAreas) || where != wantAt || f != wantError {
			t.Fatal(toldPlots(l), run, toldNumbers(areas), where, f, toldNumbers(wantAreas), wantAt, wantError)
		}
		seen.add(0, e)
		seen.add(1, f)
		seen.add(10+len(run), e)
		seen.add(20+at, e)
		seen.add(30+where, f)
	}
	seen.want(t, 0, 100, api.OK, api.ErrRange, api.ErrOver, api.ErrSurd)
	seen.want(t, 1, 100, api.OK, api.ErrRange, api.ErrOver)
	seen.want(t, 15, 100, api.OK)
	seen.want(t, 23, 20, api.ErrRange, api.ErrSurd)
	seen.want(t, 33, 20, api.ErrRange)
}

// P4.5: growing areas and factors, and the first one of several errors, are those of the chapter's own words.
func TestGrowAsTold(t *testing.T) {
	next := pseudo()
	seen := refused{}
	years := []int{0, 1, 2, 3, 7, 20, 100, 999, 1000}
	for i := range 20000 {
		first, by := sideOf(t, next), sideOf(t, next)
		switch i % 4 {
		case 0:
			by = integer(next(3))
		case 1:
			first, by = someSide(next, 2, 20), someSide(next, 2, 20)
		}
		from, to := years[next(len(years))], years[next(len(years))]
		var want api.Number
		wantError := caught(func() { want = modelGrow(first, by, to) })
		if x, e := area.Grow(first, by, to); !same(x, want) || e != wantError {
			t.Fatal(told(first), told(by), to, x, e, want, wantError)
		}
		want = api.Number{}
		wantError = caught(func() {
			before := modelGrow(first, by, from)
			after := modelGrow(first, by, to)
			want = must(surd.Root(must(surd.Quo(after, before))))
		})
		x, e := area.Factor(first, by, from, to)
		if !same(x, want) || e != wantError {
			t.Fatal(told(first), told(by), from, to, x, e, want, wantError)
		}
		seen.add(0, e)
	}
	seen.want(t, 0, 200, api.OK, api.ErrOver, api.ErrFull, api.ErrSurd)
}

// P4.6: scaled plots and plans, and the first one of several errors, are those of the chapter's own words.
func TestScaleAsTold(t *testing.T) {
	next := pseudo()
	seen := refused{}
	for range 20000 {
		p, f := plotOfSides(t, next), sideOf(t, next)
		want := api.Plot{Kind: p.Kind}
		wantError := caught(func() {
			want.A = must(surd.Mul(p.A, f))
			if p.Kind > api.PlotSquare {
				want.B = must(surd.Mul(p.B, f))
			}
			if p.Kind == api.PlotTrapezium {
				want.C = must(surd.Mul(p.C, f))
			}
		})
		if wantError != api.OK {
			want = api.Plot{}
		}
		q, e := area.Scale(p, f)
		if !samePlot(q, want) || e != wantError {
			t.Fatal(toldPlot(p), told(f), q, e, want, wantError)
		}
		seen.add(0, e)
		l := []api.Point{{X: sideOf(t, next), Y: sideOf(t, next)}, {X: sideOf(t, next), Y: sideOf(t, next)}}
		var wantPlan []api.Point
		wantError = caught(func() {
			for _, p := range l {
				x := must(surd.Mul(p.X, f))
				wantPlan = append(wantPlan, api.Point{X: x, Y: must(surd.Mul(p.Y, f))})
			}
		})
		if wantError != api.OK {
			wantPlan = nil
		}
		m, e := area.ScalePlan(l, f)
		if toldPlan(m) != toldPlan(wantPlan) || e != wantError {
			t.Fatal(toldPlan(l), told(f), toldPlan(m), e, toldPlan(wantPlan), wantError)
		}
		seen.add(1, e)
	}
	for kind := range 2 {
		seen.want(t, kind, 500, api.OK, api.ErrOver, api.ErrFull)
	}
}

// P4.7: areas of plans, and the first one of several errors, are those of the chapter's own words.
func TestPlanAreaAsTold(t *testing.T) {
	next := pseudo()
	seen := refused{}
	coordinate := func() api.Number {
		x := sideOf(t, next)
		switch next(4) {
		case 0:
			return integer(0)
		case 1:
			return must(surd.Sub(integer(0), x))
		}
		return x
	}
	for i := range 40000 {
		var l []api.Point
		for range 3 + next(3) {
			l = append(l, api.Point{X: coordinate(), Y: coordinate()})
		}
		if i%2 == 0 {
			l = somePlan(next, 3+next(10), 1+next(2), []int{3, 30, 1000}[i/2%3])
		}
		var want api.Number
		wantError := caught(func() { want = modelPlanArea(l) })
		x, e := area.PlanArea(l)
		if !same(x, want) || e != wantError {
			t.Fatal(toldPlan(l), x, e, want, wantError)
		}
		seen.add(0, e)
	}
	seen.want(t, 0, 1000, api.OK, api.ErrOver, api.ErrFull)
}
