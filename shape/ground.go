package shape

import (
	"slices"

	"chiti/api"
)

// ground is which quarters are there, by their rows, columns and sides.
type ground [api.MaxGrid][api.MaxGrid][sides]bool

func groundOf(quarters ...api.Quarter) ground {
	var g ground
	for _, q := range quarters {
		g.set(q, true)
	}
	return g
}

func (g *ground) set(q api.Quarter, isThere bool) { g[q.Y][q.X][q.Side] = isThere }

func (g *ground) has(q api.Quarter) bool { return g[q.Y][q.X][q.Side] }

func (g *ground) lacks(q api.Quarter) bool { return !g.has(q) }

// quarters yields the quarters that are there in ascending order.
func (g ground) quarters(yield func(q api.Quarter) bool) {
	only(oblong(0, 0, api.MaxGrid, api.MaxGrid), g.has)(yield)
}

// free yields the quarters of the grid that are not there in ascending order.
func (g ground) free(yield func(q api.Quarter) bool) {
	only(oblong(0, 0, api.MaxGrid, api.MaxGrid), g.lacks)(yield)
}

func (g ground) list() []api.Quarter { return slices.Collect(g.quarters) }

func (g ground) count() int { return len(g.list()) }

// holes yields what is enclosed, by the first quarters.
func (g ground) holes(yield func(hole ground) bool) {
	// What was enclosed, or open, is filled, so that it is not gone through again.
	filled := g
	for q := range g.free {
		if filled.has(q) {
			continue
		}
		if room, isOpen := filled.fill(q); !isOpen && !yield(room) {
			return
		}
	}
}

// fill adds a quarter, and all that are reached from it without a step on what is there. It returns these, and whether the way leads off the grid.
func (g *ground) fill(first api.Quarter) (room ground, isOpen bool) {
	reached := []api.Quarter{first}
	for len(reached) > 0 {
		q := reached[0]
		reached = reached[1:]
		switch {
		case !isOn(q):
			isOpen = true
		case g.lacks(q):
			g.set(q, true)
			room.set(q, true)
			reached = append(reached, touching(q)...)
		}
	}
	return room, isOpen
}

// turns yields the eight places in the corner of the grid.
func turns(yield func(p api.Place) bool) {
	for _, mirror := range [...]bool{false, true} {
		for turns := range sides {
			if !yield(api.Place{Mirror: mirror, Turns: turns}) {
				return
			}
		}
	}
}
