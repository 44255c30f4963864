package shape_test

import (
	"cmp"
	"math/big"
	"slices"
	"strconv"
	"strings"

	"chiti/api"
	"chiti/brick"
)

// The model works with points in the plane, in sixths: a quarter is known by its center of gravity.
type dot struct{ x, y int }

// outwards returns the ways from the middle of a cell to those of its sides.
func outwards() []dot { return []dot{{0, 1}, {1, 0}, {0, -1}, {-1, 0}} }

func dotOf(q api.Quarter) dot {
	way := outwards()[q.Side]
	return dot{6*q.X + 3 + 2*way.x, 6*q.Y + 3 + 2*way.y}
}

func floor(n, by int) int {
	if n < 0 {
		return -((by - 1 - n) / by)
	}
	return n / by
}

// quarterAt returns the quarter in which a point is, if the sixths are divided by so many parts.
func quarterAt(d dot, parts int) api.Quarter {
	cell := 6 * parts
	column, row := floor(d.x, cell), floor(d.y, cell)
	x, y := 2*(d.x-column*cell)-cell, 2*(d.y-row*cell)-cell
	switch {
	case y > max(x, -x):
		return quarter(column, row, api.North)
	case x > max(y, -y):
		return quarter(column, row, api.East)
	case -y > max(x, -x):
		return quarter(column, row, api.South)
	}
	return quarter(column, row, api.West)
}

func inGrid(q api.Quarter) bool { return min(q.X, q.Y) >= 0 && max(q.X, q.Y) < 16 }

func modelCompare(a, b api.Quarter) int { return cmp.Or(a.Y-b.Y, a.X-b.X, a.Side-b.Side) }

// modelGround is the quarters that are there.
type modelGround map[api.Quarter]bool

func groundOf(s []api.Quarter) modelGround {
	g := modelGround{}
	for _, q := range s {
		g[q] = true
	}
	return g
}

func (g modelGround) list() []api.Quarter {
	var s []api.Quarter
	for q := range g {
		s = append(s, q)
	}
	slices.SortFunc(s, modelCompare)
	return s
}

// within returns the quarters of cells whose points meet a condition.
func within(x, y, w, h int, isIn func(d dot) bool) []api.Quarter {
	var l []api.Quarter
	for i := range 4 * w * h {
		q := quarter(x+i/4%w, y+i/4/w, i%4)
		if isIn(dotOf(q)) {
			l = append(l, q)
		}
	}
	return l
}

// meant returns the quarters that a step is about.
func (g modelGround) meant(s api.GroundStep) []api.Quarter {
	var l []api.Quarter
	switch s.Kind {
	case api.GroundAdd, api.GroundCut:
		return within(s.X, s.Y, s.W, s.H, func(dot) bool { return true })
	case api.GroundCorner, api.GroundClip:
		return within(s.X, s.Y, s.W, s.W, func(d dot) bool {
			x, y := d.x-6*s.X, d.y-6*s.Y
			return []bool{x+y > 6*s.W, x > y, x+y < 6*s.W, x < y}[s.Side]
		})
	case api.GroundBrick:
		kind, _ := brick.Kind(s.Name)
		put, e := brick.Put(kind, s.Place)
		if e != api.OK {
			return []api.Quarter{quarter(-1, -1, 0)}
		}
		return put
	case api.GroundMirror:
		for q := range g {
			d := dotOf(q)
			l = append(l, quarterAt(dot{6*(s.X+1) - d.x, d.y}, 1))
		}
	case api.GroundTurn:
		for q := range g {
			d := dotOf(q)
			l = append(l, quarterAt(dot{6*(s.X+1) - d.y, d.x}, 1))
		}
	}
	return l
}

func (g modelGround) carryOut(s api.GroundStep) api.Errno {
	l := g.meant(s)
	isThere := func(q api.Quarter) bool { return g[q] }
	isMissing := func(q api.Quarter) bool { return !g[q] }
	isOff := func(q api.Quarter) bool { return !inGrid(q) }
	adds := s.Kind == api.GroundAdd || s.Kind == api.GroundCorner || s.Kind == api.GroundBrick
	takes := s.Kind == api.GroundCut || s.Kind == api.GroundClip
	switch {
	case slices.ContainsFunc(l, isOff):
		return api.ErrRange
	case adds && slices.ContainsFunc(l, isThere):
		return api.ErrTwice
	case takes && slices.ContainsFunc(l, isMissing):
		return api.ErrNone
	}
	for _, q := range l {
		if takes {
			delete(g, q)
		} else {
			g[q] = true
		}
	}
	if len(g) > 400 {
		return api.ErrLong
	}
	return api.OK
}

// modelRun returns the ground behind each step of a program of valid steps.
func modelRun(l []api.GroundStep) (behind [][]api.Quarter, at int, e api.Errno) {
	g := modelGround{}
	for i, s := range l {
		if e := g.carryOut(s); e != api.OK {
			return nil, i, e
		}
		behind = append(behind, g.list())
	}
	return behind, 0, api.OK
}

// segment is the way between two points, of which the first one is the lesser.
type segment [2]dot

func between(a, b dot) segment {
	if cmp.Or(a.x-b.x, a.y-b.y) > 0 {
		a, b = b, a
	}
	return segment{a, b}
}

func (s segment) isDiagonal() bool { return s[0].x != s[1].x && s[0].y != s[1].y }

// segmentsOf returns the sides of the triangle of a quarter.
func segmentsOf(q api.Quarter) []segment {
	m, way := dot{6*q.X + 3, 6*q.Y + 3}, outwards()[q.Side]
	first := dot{m.x + 3*(way.x+way.y), m.y + 3*(way.y+way.x)}
	second := dot{m.x + 3*(way.x-way.y), m.y + 3*(way.y-way.x)}
	return []segment{between(m, first), between(m, second), between(first, second)}
}

// owners returns the quarters that have each segment.
func owners(s []api.Quarter) map[segment][]api.Quarter {
	all := map[segment][]api.Quarter{}
	for _, q := range s {
		for _, side := range segmentsOf(q) {
			all[side] = append(all[side], q)
		}
	}
	return all
}

// modelAround returns how many sides of cells and how many half diagonals are around a shape, as the text of the number.
func modelAround(s []api.Quarter) string {
	straight, diagonal := 0, 0
	for side, l := range owners(s) {
		switch {
		case len(l) == 1 && side.isDiagonal():
			diagonal++
		case len(l) == 1:
			straight++
		}
	}
	roots := func(n int) string { return strings.TrimPrefix("+"+strconv.Itoa(n)+"r2", "+") }
	first := ""
	if straight > 0 {
		first = strconv.Itoa(straight) + "+"
	}
	switch {
	case diagonal == 0:
		return strconv.Itoa(straight)
	case diagonal == 2:
		return first + "r2"
	case diagonal%2 == 0:
		return first + roots(diagonal/2)
	case straight == 0:
		return roots(diagonal) + "/2"
	case diagonal == 1:
		return "(" + strconv.Itoa(2*straight) + "+r2)/2"
	}
	return "(" + strconv.Itoa(2*straight) + "+" + roots(diagonal) + ")/2"
}

// modelCenter returns the texts of the means of all points.
func modelCenter(s []api.Quarter) [2]string {
	x, y := new(big.Rat), new(big.Rat)
	for _, q := range s {
		d := dotOf(q)
		x.Add(x, big.NewRat(int64(d.x), int64(6*len(s))))
		y.Add(y, big.NewRat(int64(d.y), int64(6*len(s))))
	}
	return [2]string{x.RatString(), y.RatString()}
}

// modelRooms returns the connected parts of what is not there, on a grid with a margin of two cells.
func modelRooms(s []api.Quarter) [][]api.Quarter {
	there := groundOf(s)
	free := within(-2, -2, 20, 20, func(dot) bool { return true })
	free = slices.DeleteFunc(free, func(q api.Quarter) bool { return there[q] })
	all, seen := owners(free), modelGround{}
	var rooms [][]api.Quarter
	for _, q := range free {
		if seen[q] {
			continue
		}
		seen[q] = true
		room := []api.Quarter{q}
		for i := 0; i < len(room); i++ {
			for _, side := range segmentsOf(room[i]) {
				for _, o := range all[side] {
					if !seen[o] {
						seen[o] = true
						room = append(room, o)
					}
				}
			}
		}
		slices.SortFunc(room, modelCompare)
		rooms = append(rooms, room)
	}
	return rooms
}

// modelHoles returns the parts of what is not there that have no quarter off the grid.
func modelHoles(s []api.Quarter) [][]api.Quarter {
	isOff := func(q api.Quarter) bool { return !inGrid(q) }
	return slices.DeleteFunc(modelRooms(s), func(l []api.Quarter) bool { return slices.ContainsFunc(l, isOff) })
}

// modelSymmetries goes through the eight places in their order.
func modelSymmetries(s []api.Quarter) []api.Place {
	var l []api.Place
	for i := range 8 {
		p := api.Place{Mirror: i >= 4, Turns: i % 4}
		if slices.Equal(modelCorner(modelTurned(s, p)), modelCorner(s)) {
			l = append(l, p)
		}
	}
	return l
}

func modelTurned(s []api.Quarter, p api.Place) []api.Quarter {
	var l []api.Quarter
	for _, q := range s {
		d := dotOf(q)
		if p.Mirror {
			d.x = -d.x
		}
		for range p.Turns {
			d = dot{-d.y, d.x}
		}
		l = append(l, quarterAt(d, 1))
	}
	return l
}

// modelCorner moves a shape such that its least column and row are 0.
func modelCorner(s []api.Quarter) []api.Quarter {
	left := slices.MinFunc(s, func(a, b api.Quarter) int { return a.X - b.X }).X
	low := slices.MinFunc(s, func(a, b api.Quarter) int { return a.Y - b.Y }).Y
	var l []api.Quarter
	for _, q := range s {
		l = append(l, quarter(q.X-left, q.Y-low, q.Side))
	}
	slices.SortFunc(l, modelCompare)
	return l
}

// modelEnlarge returns the quarters, on the grid or off it, whose points lie in the shape if they are brought nearer to the corner.
func modelEnlarge(s []api.Quarter, times int) []api.Quarter {
	there := groundOf(modelCorner(s))
	return within(0, 0, 16*times, 16*times, func(d dot) bool { return there[quarterAt(d, times)] })
}
