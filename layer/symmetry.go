package layer

import (
	"slices"

	"chiti/api"
)

// sides is how many sides a cell has, and how many turns bring a ground back.
const sides = 4

// key is the numbers of the pieces of a tiling in ascending order.
type key [api.MaxLaid]int

func keyOf(words ...int) key {
	var k key
	copy(k[:], words)
	slices.Sort(k[:len(words)])
	return k
}

// turned returns where a quarter comes to in one of the eight ways to turn: the numbers from 4 on reflect it first.
func turned(q api.Quarter, way int) api.Quarter {
	if way >= sides {
		q = api.Quarter{X: -q.X, Y: q.Y, Side: (sides - q.Side) % sides}
	}
	for range way % sides {
		q = api.Quarter{X: -q.Y, Y: q.X, Side: (q.Side + sides - 1) % sides}
	}
	return q
}

// corner returns the least column and the least row of quarters.
func corner(s []api.Quarter) (x, y int) {
	x, y = s[0].X, s[0].Y
	for _, q := range s {
		x, y = min(x, q.X), min(y, q.Y)
	}
	return x, y
}

// symmetries yields the symmetries of the ground, each as the numbers of the quarters to which it brings those of the ground.
func (b *board) symmetries(yield func(brought []int) bool) {
	for way := range 2 * sides {
		brought, isSymmetry := b.brought(way)
		if isSymmetry && !yield(brought) {
			return
		}
	}
}

// brought returns the numbers of the quarters to which a way to turn brings those of the ground, and whether it comes to lie where it was.
func (b *board) brought(way int) (numbers []int, isSymmetry bool) {
	var image []api.Quarter
	for _, q := range b.Ground {
		image = append(image, turned(q, way))
	}
	x, y := corner(b.Ground)
	fromX, fromY := corner(image)
	for _, q := range image {
		number, isThere := b.numbers[api.Quarter{X: q.X - fromX + x, Y: q.Y - fromY + y, Side: q.Side}]
		if !isThere {
			return nil, false
		}
		numbers = append(numbers, number)
	}
	return numbers, true
}

// image is a kind at a set of quarters.
type image struct {
	kind     int
	quarters quarters
}

// images returns the numbers of the pieces that a symmetry makes of the pieces.
func (b *board) images(brought []int) []int {
	numbers := map[image]int{}
	for i, p := range b.pieces {
		numbers[image{p.Kind, p.quarters}] = i
	}
	var l []int
	for _, p := range b.pieces {
		made := image{kind: p.Kind}
		for number := range p.quarters.numbers {
			made.quarters |= 1 << brought[number]
		}
		l = append(l, numbers[made])
	}
	return l
}

// unlike returns how many tilings there are if those that symmetries make of each other count once.
func (b *board) unlike(tilings [][]int) int {
	order := map[key]int{}
	earliest := make([]int, len(tilings))
	for i, tiling := range tilings {
		order[keyOf(tiling...)] = i
		earliest[i] = i
	}
	for brought := range b.symmetries {
		images := b.images(brought)
		for i, tiling := range tilings {
			if made, isTiling := order[keyOf(imagesOf(tiling, images)...)]; isTiling {
				earliest[i] = min(earliest[i], made)
			}
		}
	}
	count := 0
	for i := range tilings {
		if earliest[i] == i {
			count++
		}
	}
	return count
}

func imagesOf(tiling, images []int) []int {
	var l []int
	for _, number := range tiling {
		l = append(l, images[number])
	}
	return l
}
