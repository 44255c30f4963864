package layer

import (
	"slices"

	"chiti/api"
)

// plan returns the first plan of n layers, of tilings with the earliest one first, the lowest without a joint over those below.
func (b *board) plan(tilings [][]int, below edges, n int) ([][]api.Laid, api.Errno) {
	joints := make([]edges, len(tilings))
	for i, tiling := range tilings {
		joints[i] = b.joints(tiling...)
	}
	crosses := func(below edges) func(i int) bool {
		return func(i int) bool { return joints[i].and(below).isEmpty() }
	}
	// What can lie on a layer can also lie under it: so a layer that lies on another one can always be followed, by a tiling like the one under it at the worst.
	canGoOn := func(i int) bool { return n == 1 || first(len(tilings), crosses(joints[i])) >= 0 }
	var layers [][]api.Laid
	for range n {
		isNext := crosses(below)
		i := first(len(tilings), func(i int) bool { return isNext(i) && canGoOn(i) })
		if i < 0 {
			return nil, api.ErrNone
		}
		layers = append(layers, b.bricks(tilings[i]))
		below = joints[i]
	}
	return layers, api.OK
}

// order returns in which order the pieces of a tiling are laid, by their numbers in the list.
func (b *board) order(tiling []int, begin, end []int) []int {
	order := slices.Clone(begin)
	var laid edges
	for _, i := range begin {
		laid = laid.or(b.pieces[tiling[i]].edges)
	}
	isLeft := func(i int) bool { return !slices.Contains(order, i) && !slices.Contains(end, i) }
	hasJoint := func(i int) bool { return !b.pieces[tiling[i]].edges.and(laid).isEmpty() }
	for range len(tiling) - len(begin) - len(end) {
		i := first(len(tiling), func(i int) bool { return isLeft(i) && hasJoint(i) })
		if i < 0 {
			i = first(len(tiling), isLeft)
		}
		order = append(order, i)
		laid = laid.or(b.pieces[tiling[i]].edges)
	}
	return append(order, end...)
}
