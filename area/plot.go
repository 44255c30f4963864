package area

import "chiti/api"

// countOf returns how many numbers plots of a kind have, and 0 if there is no such kind.
func countOf(k api.PlotKind) int {
	switch k {
	case api.PlotSquare:
		return 1
	case api.PlotOblong, api.PlotTriangle, api.PlotRhomb:
		return 2
	case api.PlotTrapezium:
		return 3
	}
	return 0
}

func allOf(p api.Plot) []api.Number { return []api.Number{p.A, p.B, p.C} }

// numbersOf returns the numbers that a plot has.
func numbersOf(p api.Plot) []api.Number { return allOf(p)[:countOf(p.Kind)] }

// plotOf returns the plot of a kind with its numbers.
func plotOf(k api.PlotKind, numbers ...api.Number) api.Plot {
	var all [3]api.Number
	copy(all[:], numbers)
	return api.Plot{Kind: k, A: all[0], B: all[1], C: all[2]}
}

func copiedPlot(p api.Plot) api.Plot {
	var l []api.Number
	for _, x := range numbersOf(p) {
		l = append(l, copied(x))
	}
	return plotOf(p.Kind, l...)
}

func isPlot(p api.Plot) bool {
	count := countOf(p.Kind)
	return count > 0 && every(isAbove0, numbersOf(p)...) && every(isNone, allOf(p)[count:]...)
}

// areaOf returns the area of a valid plot.
func areaOf(p api.Plot) (api.Number, api.Errno) {
	half := over(whole(2))
	switch p.Kind {
	case api.PlotSquare:
		return computed(p.A, times(p.A))
	case api.PlotOblong:
		return computed(p.A, times(p.B))
	case api.PlotTrapezium:
		return computed(p.A, plus(p.B), times(p.C), half)
	}
	return computed(p.A, times(p.B), half)
}
