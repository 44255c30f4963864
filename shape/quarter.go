package shape

import (
	"iter"

	"chiti/api"
	"chiti/surd"
)

// sides is how many sides, and quarters, a cell has.
const sides = 4

// spot is a place, or a way, in columns and rows, or in parts of them.
type spot struct{ x, y int }

// ways are the ways from the middle of a cell to its sides.
var ways = [...]spot{
	api.North: {0, 1},
	api.East:  {1, 0},
	api.South: {0, -1},
	api.West:  {-1, 0},
}

func within(n, low, high int) bool { return low <= n && n <= high }

func every[T any](holds func(T) bool, l ...T) bool {
	for _, x := range l {
		if !holds(x) {
			return false
		}
	}
	return true
}

// areColumns reports whether all columns, or rows, are on the grid.
func areColumns(columns ...int) bool {
	return every(func(n int) bool { return within(n, 0, api.MaxGrid-1) }, columns...)
}

func isOn(q api.Quarter) bool { return areColumns(q.X, q.Y) }

func isOff(q api.Quarter) bool { return !isOn(q) }

// quarters yields quarters, on the grid or off it.
type quarters = iter.Seq[api.Quarter]

// oblong yields the quarters of w times h cells in ascending order.
func oblong(x, y, w, h int) quarters {
	return func(yield func(q api.Quarter) bool) {
		for row := range h {
			for column := range w {
				for side := range sides {
					if !yield(api.Quarter{X: x + column, Y: y + row, Side: side}) {
						return
					}
				}
			}
		}
	}
}

// only yields the quarters that meet a condition.
func only(all quarters, condition func(q api.Quarter) bool) quarters {
	return func(yield func(q api.Quarter) bool) {
		for q := range all {
			if condition(q) && !yield(q) {
				return
			}
		}
	}
}

// each yields what becomes of quarters.
func each(all quarters, becomes func(q api.Quarter) api.Quarter) quarters {
	return func(yield func(q api.Quarter) bool) {
		for q := range all {
			if !yield(becomes(q)) {
				return
			}
		}
	}
}

// some reports whether a quarter that is yielded meets a condition.
func some(all quarters, condition func(q api.Quarter) bool) bool {
	for range only(all, condition) {
		return true
	}
	return false
}

// towards returns the condition that a quarter of a square of cells is in the half with the corner between a side and the next one.
func towards(x, y, w, side int) func(q api.Quarter) bool {
	first, second := ways[side], ways[(side+1)%sides]
	return func(q api.Quarter) bool {
		// Twice the way from the middle of the square to that of the cell, and on to its side: those that lead towards the corner are in the half.
		way := spot{2*(q.X-x) + 1 - w + ways[q.Side].x, 2*(q.Y-y) + 1 - w + ways[q.Side].y}
		return way.x*(first.x+second.x)+way.y*(first.y+second.y) > 0
	}
}

// half yields the quarters of the half of a square of cells with the corner between a side and the next one.
func half(x, y, w, side int) quarters {
	return only(oblong(x, y, w, w), towards(x, y, w, side))
}

// enlarged yields what becomes of a quarter if the whole grid is made so many times as great.
func enlarged(q api.Quarter, times int) quarters {
	x, y := q.X*times, q.Y*times
	before := (q.Side + sides - 1) % sides
	return only(half(x, y, times, q.Side), towards(x, y, times, before))
}

// touching returns the quarters that have an edge in common with one, also those off the grid.
func touching(q api.Quarter) []api.Quarter {
	next, before, across := q, q, q
	next.Side, before.Side, across.Side = (q.Side+1)%sides, (q.Side+3)%sides, (q.Side+2)%sides
	across.X += ways[q.Side].x
	across.Y += ways[q.Side].y
	return []api.Quarter{next, before, across}
}

// centerOf returns the center of gravity of a quarter, in sixths.
func centerOf(q api.Quarter) spot {
	return spot{6*q.X + 3 + 2*ways[q.Side].x, 6*q.Y + 3 + 2*ways[q.Side].y}
}

// pointOf returns the point with these coordinates, divided by den.
func pointOf(den, x, y int) (api.Point, api.Errno) {
	first, e := surd.Make(den, []api.Term{{Coef: x, Root: 1}})
	if e != api.OK {
		return api.Point{}, e
	}
	second, e := surd.Make(den, []api.Term{{Coef: y, Root: 1}})
	if e != api.OK {
		return api.Point{}, e
	}
	return api.Point{X: first, Y: second}, api.OK
}

// whole returns a number that is an integer above 0.
func whole(n int) api.Number {
	return api.Number{Den: 1, Terms: []api.Term{{Coef: n, Root: 1}}}
}
