package layer

import (
	"slices"

	"chiti/api"
	"chiti/brick"
)

// piece is a brick that is laid in a task, with its quarters and their edges.
type piece struct {
	api.Laid
	quarters quarters
	edges    edges
}

// board is a task with all pieces that are laid in it. They are numbered in the order of bricks.
type board struct {
	api.Task
	pieces    []piece
	starting  [api.MaxTiled][]int // the numbers of the pieces with each least quarter
	around    []edges             // the edges of each quarter of the ground
	numbers   map[api.Quarter]int // in the ground
	edgeOrder map[api.Edge]int    // the numbers of edges, as they were met
	below     edges
}

func boardOf(t api.Task) *board {
	b := &board{Task: t, numbers: map[api.Quarter]int{}, edgeOrder: map[api.Edge]int{}}
	for i, q := range t.Ground {
		b.numbers[q] = i
		b.around = append(b.around, b.meet(q))
	}
	for kind, s := range t.Kinds {
		places, _ := brick.Places(s, t.Ground)
		for _, p := range places {
			b.add(api.Laid{Kind: kind, Place: p})
		}
	}
	b.below = b.known(t.Below...)
	return b
}

// meet numbers those edges of a quarter that have no number yet, and returns all three.
func (b *board) meet(q api.Quarter) edges {
	border, _ := brick.Border([]api.Quarter{q})
	for _, e := range border {
		if _, isMet := b.edgeOrder[e]; !isMet {
			b.edgeOrder[e] = len(b.edgeOrder)
		}
	}
	return b.known(border...)
}

// known returns those of some edges that are edges of the ground's quarters.
func (b *board) known(l ...api.Edge) edges {
	var s edges
	for _, e := range l {
		if number, isMet := b.edgeOrder[e]; isMet {
			s.add(number)
		}
	}
	return s
}

// add adds the piece of a brick that is laid in the task.
func (b *board) add(l api.Laid) {
	p := piece{Laid: l}
	shape, _ := brick.Put(b.Kinds[l.Kind], l.Place)
	for _, q := range shape {
		number := b.numbers[q]
		p.quarters |= 1 << number
		p.edges = p.edges.or(b.around[number])
	}
	least := p.quarters.least()
	b.starting[least] = append(b.starting[least], len(b.pieces))
	b.pieces = append(b.pieces, p)
}

// number returns the number of the piece of a brick, and -1 if the brick is not laid in the task.
func (b *board) number(l api.Laid) int {
	return slices.IndexFunc(b.pieces, func(p piece) bool { return p.Laid == l })
}

func (b *board) numbersOf(l []api.Laid) []int {
	var numbers []int
	for _, x := range l {
		numbers = append(numbers, b.number(x))
	}
	return numbers
}

func (b *board) bricks(numbers []int) []api.Laid {
	var l []api.Laid
	for _, number := range numbers {
		l = append(l, b.pieces[number].Laid)
	}
	return l
}

// joints returns the edges between pieces that have no quarter in common.
func (b *board) joints(numbers ...int) edges {
	var seen, twice edges
	for _, number := range numbers {
		own := b.pieces[number].edges
		twice = twice.or(own.and(seen))
		seen = seen.or(own)
	}
	return twice
}

// hasArea reports whether the area of the bricks is that of the ground.
func (b *board) hasArea() bool {
	area := 0
	for kind, s := range b.Kinds {
		area += b.Counts[kind] * len(s)
	}
	return area == len(b.Ground)
}
