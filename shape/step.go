package shape

import (
	"slices"

	"chiti/api"
	"chiti/brick"
)

// isStep reports whether a step has what its kind uses, and nothing else.
func isStep(s api.GroundStep) bool {
	isLength := func(n int) bool { return within(n, 1, api.MaxGrid) }
	used := api.GroundStep{Kind: s.Kind}
	var isValid bool
	switch s.Kind {
	case api.GroundAdd, api.GroundCut:
		used.X, used.Y, used.W, used.H = s.X, s.Y, s.W, s.H
		isValid = areColumns(s.X, s.Y) && every(isLength, s.W, s.H)
	case api.GroundCorner, api.GroundClip:
		used.X, used.Y, used.W, used.Side = s.X, s.Y, s.W, s.Side
		isValid = areColumns(s.X, s.Y) && isLength(s.W) && within(s.Side, 0, sides-1)
	case api.GroundBrick:
		used.Name, used.Place = s.Name, s.Place
		_, e := brick.Kind(s.Name)
		isValid = e == api.OK && areColumns(s.Place.X, s.Place.Y) && within(s.Place.Turns, 0, sides-1)
	case api.GroundMirror, api.GroundTurn:
		used.X = s.X
		isValid = within(s.X, 0, api.MaxMove)
	}
	return isValid && s == used
}

// about tells which quarters a valid step adds to a ground, or takes away.
type about func(g ground, s api.GroundStep) quarters

// abouts returns what each kind of steps is about.
func abouts() map[api.GroundKind]about {
	cells := func(g ground, s api.GroundStep) quarters { return oblong(s.X, s.Y, s.W, s.H) }
	triangle := func(g ground, s api.GroundStep) quarters { return half(s.X, s.Y, s.W, s.Side) }
	return map[api.GroundKind]about{
		api.GroundAdd:    cells,
		api.GroundCut:    cells,
		api.GroundCorner: triangle,
		api.GroundClip:   triangle,
		api.GroundBrick:  func(g ground, s api.GroundStep) quarters { return put(s.Name, s.Place) },
		api.GroundMirror: func(g ground, s api.GroundStep) quarters {
			return each(g.quarters, func(q api.Quarter) api.Quarter {
				return api.Quarter{X: s.X - q.X, Y: q.Y, Side: (sides - q.Side) % sides}
			})
		},
		api.GroundTurn: func(g ground, s api.GroundStep) quarters {
			return each(g.quarters, func(q api.Quarter) api.Quarter {
				return api.Quarter{X: s.X - q.Y, Y: q.X, Side: (q.Side + sides - 1) % sides}
			})
		},
	}
}

// put yields the quarters of a brick at a place, also those that brick.Put would refuse, as they are off the grid.
func put(name string, p api.Place) quarters {
	shape, _ := brick.Kind(name)
	corner, _ := brick.Put(shape, api.Place{Mirror: p.Mirror, Turns: p.Turns})
	return each(slices.Values(corner), func(q api.Quarter) api.Quarter {
		return api.Quarter{X: q.X + p.X, Y: q.Y + p.Y, Side: q.Side}
	})
}

// carryOut carries out a valid step; with an error, the ground is of no use.
func (g *ground) carryOut(s api.GroundStep) api.Errno {
	// It is about what is there before it: a copy, which the step does not change.
	meant := abouts()[s.Kind](*g, s)
	if some(meant, isOff) {
		return api.ErrRange
	}
	isThere := true
	switch s.Kind {
	case api.GroundAdd, api.GroundCorner, api.GroundBrick:
		if some(meant, g.has) {
			return api.ErrTwice
		}
	case api.GroundCut, api.GroundClip:
		if some(meant, g.lacks) {
			return api.ErrNone
		}
		isThere = false
	}
	for q := range meant {
		g.set(q, isThere)
	}
	if g.count() > api.MaxQuarters {
		return api.ErrLong
	}
	return api.OK
}

// run carries out a program, and returns the ground at its end, and how many quarters there are behind each step; or the number of a step with an error.
func run(l []api.GroundStep) (g ground, counts []int, at int, e api.Errno) {
	if e := Check(l); e != api.OK {
		return ground{}, nil, 0, e
	}
	for i, s := range l {
		if e := g.carryOut(s); e != api.OK {
			return ground{}, nil, i, e
		}
		counts = append(counts, g.count())
	}
	return g, counts, 0, api.OK
}
