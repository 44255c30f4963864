package layer

import (
	"cmp"
	"slices"

	"chiti/api"
)

// node is a node of the tree of a board: the pieces that are put, and what follows from them.
type node struct {
	*board
	put     []int
	covered quarters
	edges   edges
	left    [api.MaxKinds]int // how many bricks of each kind may still be put
}

// tree is what a whole tree tells of a task.
type tree struct {
	nodes   int
	tilings [][]int    // the numbers of their pieces, in the order of lists; the earliest tiling first
	why     api.Reason // why there is no tiling, if there is none
}

// root returns the node with the fixed bricks, and whether they fit.
func (b *board) root() (*node, bool) {
	n := &node{board: b}
	copy(n.left[:], b.Counts)
	for _, l := range b.Fixed {
		number := b.number(l)
		if number < 0 || !n.hasRoom(number) {
			return nil, false
		}
		n = n.with(number)
	}
	return n, true
}

// hasRoom reports whether a piece can be put beside those that are put.
func (n *node) hasRoom(number int) bool {
	p := &n.pieces[number]
	return p.quarters&n.covered == 0 && n.left[p.Kind] > 0 && p.edges.and(n.edges).and(n.below).isEmpty()
}

// with returns the node in which a piece is put, too.
func (n *node) with(number int) *node {
	p := &n.pieces[number]
	child := *n
	child.put = append(slices.Clip(n.put), number)
	child.covered |= p.quarters
	child.edges = n.edges.or(p.edges)
	child.left[p.Kind]--
	return &child
}

func (n *node) isWhole() bool { return n.covered.free() >= len(n.Ground) }

// children yields the nodes with one piece more, in the order of bricks.
func (n *node) children(yield func(child *node) bool) {
	if n.isWhole() {
		return
	}
	// A piece that covers the least quarter that is not covered, and none that is, has it as its least one.
	for _, number := range n.starting[n.covered.free()] {
		if n.hasRoom(number) && !yield(n.with(number)) {
			return
		}
	}
}

// branches yields the node and all nodes behind it, the earlier branches first.
func (n *node) branches(yield func(n *node) bool) { n.climb(yield) }

// climb yields the same, and reports whether it was not stopped.
func (n *node) climb(yield func(n *node) bool) bool {
	if !yield(n) {
		return false
	}
	for child := range n.children {
		if !child.climb(yield) {
			return false
		}
	}
	return true
}

// tiling returns the pieces of a node that covers the ground, in the order of lists, in which the fixed ones are between the others.
func (n *node) tiling() []int {
	numbers := slices.Clone(n.put)
	slices.SortFunc(numbers, func(i, j int) int {
		return cmp.Compare(n.pieces[i].quarters.least(), n.pieces[j].quarters.least())
	})
	return numbers
}

// grow goes through the tree, unless it is told without it that there is no tiling.
func (b *board) grow() (tree, api.Errno) {
	root, fits := b.root()
	switch {
	case !fits:
		return tree{why: api.ReasonFixed}, api.OK
	case !b.hasArea():
		return tree{why: api.ReasonArea}, api.OK
	}
	var grown tree
	for n := range root.branches {
		grown.nodes++
		if grown.nodes > api.MaxNodes {
			return tree{}, api.ErrFull
		}
		// With the area of the ground, a node that covers it has put all bricks.
		if n.isWhole() {
			grown.tilings = append(grown.tilings, n.tiling())
		}
	}
	if len(grown.tilings) == 0 {
		grown.why = api.ReasonTree
	}
	return grown, api.OK
}

// earliest returns the first tiling for which a condition is true.
func (b *board) earliest(isMeant func(tiling []int) bool) ([]api.Laid, api.Errno) {
	grown, e := b.grow()
	if e != api.OK {
		return nil, e
	}
	i := slices.IndexFunc(grown.tilings, isMeant)
	if i < 0 {
		return nil, api.ErrNone
	}
	return b.bricks(grown.tilings[i]), api.OK
}
