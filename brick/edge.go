package brick

import (
	"cmp"
	"slices"

	"chiti/api"
)

// The kinds of edges that are sides of cells; a half diagonal has the number of the first one of its two sides.
const (
	southSide = 4
	westSide  = 5
)

// tally is how many times each edge was counted.
type tally map[api.Edge]int

func (t tally) count(edges ...api.Edge) {
	for _, e := range edges {
		t[e]++
	}
}

// counted returns the edges that were counted so many times, in ascending order.
func (t tally) counted(times int) []api.Edge {
	var l []api.Edge
	for e, n := range t {
		if n == times {
			l = append(l, e)
		}
	}
	slices.SortFunc(l, compareEdges)
	return l
}

func compareEdges(a, b api.Edge) int {
	return cmp.Or(cmp.Compare(a.Y, b.Y), cmp.Compare(a.X, b.X), cmp.Compare(a.Kind, b.Kind))
}

// edgesOf returns the three edges of a quarter.
func edgesOf(q api.Quarter) [3]api.Edge {
	outer := api.Edge{X: q.X, Y: q.Y, Kind: southSide}
	switch q.Side {
	case api.North:
		outer.Y++
	case api.East:
		outer.X++
		outer.Kind = westSide
	case api.West:
		outer.Kind = westSide
	}
	next := api.Edge{X: q.X, Y: q.Y, Kind: q.Side}
	before := api.Edge{X: q.X, Y: q.Y, Kind: (q.Side + sides - 1) % sides}
	return [...]api.Edge{next, before, outer}
}

// border returns the edges that just one quarter of a valid shape has.
func border(s []api.Quarter) []api.Edge {
	seen := tally{}
	for _, q := range s {
		edges := edgesOf(q)
		seen.count(edges[:]...)
	}
	return seen.counted(1)
}
