package area

import (
	"slices"

	"chiti/api"
)

// operation multiplies an area by times / over, and adds plus units.
type operation struct{ times, over, plus int }

// operations are those of the ways; there is no operation 0.
var operations = [...]operation{
	{},
	{times: 2, over: 1},
	{times: 1, over: 2},
	{times: 3, over: 1},
	{times: 1, over: 3},
	{times: 1, over: 1, plus: 1},
	{times: 1, over: 1, plus: -1},
}

// isRatio reports whether both numbers are in their range and have no common divisor.
func isRatio(r [2]int) bool {
	inRange := func(n int) bool { return within(n, 1, api.MaxPart) }
	return every(inRange, r[:]...) && gcd(r[0], r[1]) == 1
}

// of returns what an operation makes of an area, if it can be made. One unit less than an area that is not greater is not above 0, and so no ratio.
func (o operation) of(r [2]int) ([2]int, bool) {
	num, den := r[0]*o.times+r[1]*o.plus, r[1]*o.over
	g := gcd(num, den)
	made := [2]int{num / g, den / g}
	return made, isRatio(made)
}

// arrival is an area that was reached: by the last one of so many operations, from the arrival with the number before.
type arrival struct {
	area   [2]int
	by     api.AreaOp
	before int
	count  int
}

// fewest returns the smallest one of the shortest lists of operations from one area to another one. Areas are reached in the order of their lists, so each one by its smallest.
func fewest(from, to [2]int, most int) ([]api.AreaOp, bool) {
	var seen [api.MaxPart + 1][api.MaxPart + 1]bool
	seen[from[0]][from[1]] = true
	reached := []arrival{{area: from}}
	for i := 0; i < len(reached); i++ {
		here := reached[i]
		switch {
		case here.area == to:
			return listTo(here, reached), true
		case here.count == most:
			continue
		}
		for by := api.AreaDouble; by <= api.AreaLess; by++ {
			made, can := operations[by].of(here.area)
			if can && !seen[made[0]][made[1]] {
				seen[made[0]][made[1]] = true
				reached = append(reached, arrival{made, by, i, here.count + 1})
			}
		}
	}
	return nil, false
}

// listTo returns the operations that led to an arrival.
func listTo(last arrival, reached []arrival) []api.AreaOp {
	var l []api.AreaOp
	for last.count > 0 {
		l = append(l, last.by)
		last = reached[last.before]
	}
	slices.Reverse(l)
	return l
}

func gcd(a, b int) int {
	for b != 0 {
		a, b = b, a%b
	}
	return max(a, -a)
}
