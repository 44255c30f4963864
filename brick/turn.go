package brick

import "chiti/api"

// reflected and turned return where a quarter comes to if the whole grid is reflected or turned, and then lies where it was.
func reflected(q api.Quarter) api.Quarter {
	return api.Quarter{X: api.MaxGrid - 1 - q.X, Y: q.Y, Side: (sides - q.Side) % sides}
}

func turned(q api.Quarter) api.Quarter {
	return api.Quarter{X: api.MaxGrid - 1 - q.Y, Y: q.X, Side: (q.Side + sides - 1) % sides}
}

// changed returns the grid with what becomes of each quarter.
func (g grid) changed(becomes func(api.Quarter) api.Quarter) grid {
	var made grid
	for q := range g.quarters {
		made.add(becomes(q))
	}
	return made
}

// put returns the quarters put at a place with valid turns, and whether all of them are on the grid.
func (g grid) put(p api.Place) (grid, bool) {
	if p.Mirror {
		g = g.changed(reflected)
	}
	for range p.Turns {
		g = g.changed(turned)
	}
	var made grid
	least, _ := g.ends()
	for at, sum := range g.cells {
		x, y := p.X+at.x-least.x, p.Y+at.y-least.y
		if !onGrid(x) || !onGrid(y) {
			return grid{}, false
		}
		made[y][x] = sum
	}
	return made, true
}

// turns yields the eight ways to turn and reflect what is there, in the order of places, with what it becomes in the corner of the grid.
func (g grid) turns(yield func(p api.Place, image grid) bool) {
	for _, mirror := range [...]bool{false, true} {
		for turns := range sides {
			p := api.Place{Mirror: mirror, Turns: turns}
			image, _ := g.put(p)
			if !yield(p, image) {
				return
			}
		}
	}
}

// images yields those of the turns that make something new.
func (g grid) images(yield func(p api.Place, image grid) bool) {
	seen := map[grid]bool{}
	for p, image := range g.turns {
		isNew := !seen[image]
		seen[image] = true
		if isNew && !yield(p, image) {
			return
		}
	}
}
