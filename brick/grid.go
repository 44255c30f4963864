package brick

import (
	"slices"

	"chiti/api"
)

// grid is the quarters that are there: for each cell, by its row and then by its column, the sum of 1, 2, 4 and 8 for North, East, South and West.
type grid [api.MaxGrid][api.MaxGrid]uint8

// spot is the column and the row of a cell.
type spot struct{ x, y int }

// gridOf returns the grid with the quarters of a shape.
func gridOf(s []api.Quarter) grid {
	var g grid
	for _, q := range s {
		g.add(q)
	}
	return g
}

func (g *grid) add(q api.Quarter) { g[q.Y][q.X] |= 1 << q.Side }

func (g *grid) remove(q api.Quarter) { g[q.Y][q.X] &^= 1 << q.Side }

// has reports whether a quarter, which may be off the grid, is there.
func (g *grid) has(q api.Quarter) bool {
	return onGrid(q.X) && onGrid(q.Y) && g[q.Y][q.X]>>q.Side&1 == 1
}

// holds reports whether all quarters of a shape are there if they are moved by x and y.
func (g *grid) holds(s []api.Quarter, x, y int) bool {
	isMissing := func(q api.Quarter) bool { return !g.has(api.Quarter{X: q.X + x, Y: q.Y + y, Side: q.Side}) }
	return !slices.ContainsFunc(s, isMissing)
}

// cells yields the cells with quarters, and their sums, by row and then by column.
func (g grid) cells(yield func(at spot, sum uint8) bool) {
	for y, row := range g {
		for x, sum := range row {
			if sum != 0 && !yield(spot{x, y}, sum) {
				return
			}
		}
	}
}

// quarters yields the quarters in ascending order.
func (g grid) quarters(yield func(q api.Quarter) bool) {
	for at, sum := range g.cells {
		for side := range sides {
			if sum>>side&1 == 1 && !yield(api.Quarter{X: at.x, Y: at.y, Side: side}) {
				return
			}
		}
	}
}

// list returns the quarters as a shape.
func (g grid) list() []api.Quarter { return slices.Collect(g.quarters) }

// ends returns the least column and row of the quarters, and the greatest ones.
func (g grid) ends() (least, greatest spot) {
	least = spot{api.MaxGrid, api.MaxGrid}
	for at := range g.cells {
		least = spot{min(least.x, at.x), min(least.y, at.y)}
		greatest = spot{max(greatest.x, at.x), max(greatest.y, at.y)}
	}
	return least, greatest
}

// pieces yields the connected pieces in ascending order. It ranges over a copy of the grid, from which nothing is taken away.
func (g grid) pieces(yield func(piece grid) bool) {
	for q := range g.quarters {
		if g.has(q) && !yield(g.take(q)) {
			return
		}
	}
}

// take takes away a quarter and all that are connected with it, and returns them.
func (g *grid) take(first api.Quarter) grid {
	var piece grid
	reached := []api.Quarter{first}
	for len(reached) > 0 {
		q := reached[0]
		reached = reached[1:]
		if g.has(q) {
			g.remove(q)
			piece.add(q)
			touching := neighbours(q)
			reached = append(reached, touching[:]...)
		}
	}
	return piece
}

// neighbours returns the quarters that have an edge in common with one, also those off the grid.
func neighbours(q api.Quarter) [3]api.Quarter {
	next, before, across := q, q, q
	next.Side, before.Side, across.Side = (q.Side+1)%sides, (q.Side+3)%sides, (q.Side+2)%sides
	switch q.Side {
	case api.North:
		across.Y++
	case api.East:
		across.X++
	case api.South:
		across.Y--
	case api.West:
		across.X--
	}
	return [...]api.Quarter{next, before, across}
}
