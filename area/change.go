package area

import (
	"chiti/api"
	"chiti/surd"
)

// change is what a kind of changes uses beside First, which area it makes of those of First and Second, and which plot with that area.
type change struct {
	second, side, part bool
	area               func(c api.AreaChange, s, t api.Number) (api.Number, api.Errno)
	plot               plotter
}

type plotter func(c api.AreaChange, s api.Number) (api.Plot, api.Errno)

// kinds returns what changes do, by their kinds.
func kinds() map[api.ChangeKind]change {
	return map[api.ChangeKind]change{
		api.ChangeSquare:    {area: kept, plot: square},
		api.ChangeOblong:    {side: true, area: kept, plot: withSide(api.PlotOblong, unchanged)},
		api.ChangeTriangle:  {side: true, area: kept, plot: withSide(api.PlotTriangle, times(whole(2)))},
		api.ChangeRhomb:     {side: true, area: kept, plot: withSide(api.PlotRhomb, times(whole(2)))},
		api.ChangeTrapezium: {side: true, part: true, area: kept, plot: trapezium},
		api.ChangeJoin:      {second: true, area: joined, plot: square},
		api.ChangeLess:      {second: true, area: lessened, plot: square},
		api.ChangeTimes:     {part: true, area: multiplied, plot: square},
	}
}

// isChange reports whether a change is valid; its plots may have any numbers.
func isChange(c api.AreaChange) bool {
	k, known := kinds()[c.Kind]
	isSecond, isSide, isPart := k.second || c.Second == 0, isNone(c.X), c.Num == 0 && c.Den == 0
	if k.side {
		isSide = isAbove0(c.X)
	}
	if k.part {
		isPart = within(c.Num, 1, api.MaxTimes) && within(c.Den, 1, api.MaxTimes)
	}
	return known && isSecond && isSide && isPart
}

// areaMade returns the area that a change makes of so many plots, each of which has an area or an error.
func areaMade(c api.AreaChange, count int, areaAt func(n int) (api.Number, api.Errno)) (api.Number, api.Errno) {
	// A Second that is not used is 0: there is such a plot if there is a First.
	isThere := func(n int) bool { return within(n, 0, count-1) }
	switch {
	case !isChange(c):
		return api.Number{}, api.ErrArg
	case !every(isThere, c.First, c.Second):
		return api.Number{}, api.ErrNone
	}
	k := kinds()[c.Kind]
	var t api.Number
	s, e := areaAt(c.First)
	if e == api.OK && k.second {
		t, e = areaAt(c.Second)
	}
	if e != api.OK {
		return api.Number{}, e
	}
	return k.area(c, s, t)
}

func kept(c api.AreaChange, s, t api.Number) (api.Number, api.Errno) { return s, api.OK }

func joined(c api.AreaChange, s, t api.Number) (api.Number, api.Errno) { return surd.Add(s, t) }

func lessened(c api.AreaChange, s, t api.Number) (api.Number, api.Errno) {
	if order, _ := surd.Compare(s, t); order <= 0 {
		return api.Number{}, api.ErrRange
	}
	return surd.Sub(s, t)
}

func multiplied(c api.AreaChange, s, t api.Number) (api.Number, api.Errno) {
	return surd.Mul(s, fraction(c.Num, c.Den))
}

func square(c api.AreaChange, s api.Number) (api.Plot, api.Errno) {
	side, e := surd.Root(s)
	if e != api.OK {
		return api.Plot{}, e
	}
	return plotOf(api.PlotSquare, side), api.OK
}

// withSide returns what makes plots of a kind with the side X: the other one is what first becomes of the area, divided by X.
func withSide(k api.PlotKind, first step) plotter {
	return func(c api.AreaChange, s api.Number) (api.Plot, api.Errno) {
		other, e := computed(s, first, over(c.X))
		if e != api.OK {
			return api.Plot{}, e
		}
		return plotOf(k, copied(c.X), other), api.OK
	}
}

func trapezium(c api.AreaChange, s api.Number) (api.Plot, api.Errno) {
	other, e := computed(c.X, times(fraction(c.Num, c.Den)))
	if e != api.OK {
		return api.Plot{}, e
	}
	distance, e := computed(s, times(whole(2)), overSum(c.X, other))
	if e != api.OK {
		return api.Plot{}, e
	}
	return plotOf(api.PlotTrapezium, copied(c.X), other, distance), api.OK
}

// checkRun returns the error of plots and of the number of their changes.
func checkRun(l []api.Plot, changes []api.AreaChange) api.Errno {
	switch {
	case len(l) > api.MaxPlots || len(changes) > api.MaxChanges:
		return api.ErrLong
	case !every(isPlot, l...):
		return api.ErrArg
	}
	return api.OK
}
