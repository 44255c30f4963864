package brick_test

import (
	"cmp"
	"slices"
	"strings"

	"chiti/api"
)

// The model works with points in the plane: a quarter is the triangle with the middle of its cell and the ends of a side. All coordinates are doubled, so that they are integers.
type spot struct{ x, y int }

// segment is the way between two points, of which the first one is the lesser.
type segment [2]spot

func middle(x, y int) spot { return spot{2*x + 1, 2*y + 1} }

// outwards returns the ways from the middle of a cell to those of its sides.
func outwards() []spot { return []spot{{0, 1}, {1, 0}, {0, -1}, {-1, 0}} }

func between(a, b spot) segment {
	if cmp.Or(a.x-b.x, a.y-b.y) > 0 {
		a, b = b, a
	}
	return segment{a, b}
}

// segmentsOf returns the three sides of the triangle of a quarter.
func segmentsOf(q api.Quarter) []segment {
	m, way := middle(q.X, q.Y), outwards()[q.Side]
	first := spot{m.x + way.x + way.y, m.y + way.y + way.x}
	second := spot{m.x + way.x - way.y, m.y + way.y - way.x}
	return []segment{between(m, first), between(m, second), between(first, second)}
}

// segmentOf returns where an edge is.
func segmentOf(e api.Edge) segment {
	m := middle(e.X, e.Y)
	northEast, southEast := spot{m.x + 1, m.y + 1}, spot{m.x + 1, m.y - 1}
	southWest, northWest := spot{m.x - 1, m.y - 1}, spot{m.x - 1, m.y + 1}
	switch e.Kind {
	case 0:
		return between(m, northEast)
	case 1:
		return between(m, southEast)
	case 2:
		return between(m, southWest)
	case 3:
		return between(m, northWest)
	case 4:
		return between(southWest, southEast)
	}
	return between(southWest, northWest)
}

func modelCompare(a, b api.Quarter) int { return cmp.Or(a.Y-b.Y, a.X-b.X, a.Side-b.Side) }

func modelCompareShapes(a, b []api.Quarter) int { return slices.CompareFunc(a, b, modelCompare) }

func inGrid(n int) bool { return 0 <= n && n < 16 }

// modelPut puts a shape at a place, and reports whether it can be put there.
func modelPut(s []api.Quarter, p api.Place) ([]api.Quarter, bool) {
	if p.Turns < 0 || p.Turns > 3 || !inGrid(p.X) || !inGrid(p.Y) {
		return nil, false
	}
	var put []api.Quarter
	for _, q := range s {
		m, way := middle(q.X, q.Y), outwards()[q.Side]
		if p.Mirror {
			m.x, way.x = -m.x, -way.x
		}
		for range p.Turns {
			m, way = spot{-m.y, m.x}, spot{-way.y, way.x}
		}
		put = append(put, quarter((m.x-1)/2, (m.y-1)/2, slices.Index(outwards(), way)))
	}
	left := slices.MinFunc(put, func(a, b api.Quarter) int { return a.X - b.X }).X
	low := slices.MinFunc(put, func(a, b api.Quarter) int { return a.Y - b.Y }).Y
	for i := range put {
		put[i].X += p.X - left
		put[i].Y += p.Y - low
		if !inGrid(put[i].X) || !inGrid(put[i].Y) {
			return nil, false
		}
	}
	slices.SortFunc(put, modelCompare)
	return put, true
}

// eight returns the eight ways to turn, in their order.
func eight() []api.Place {
	var l []api.Place
	for i := range 8 {
		l = append(l, api.Place{Mirror: i >= 4, Turns: i % 4})
	}
	return l
}

func modelImages(s []api.Quarter) [][]api.Quarter {
	var l [][]api.Quarter
	for _, p := range eight() {
		image, _ := modelPut(s, p)
		l = append(l, image)
	}
	slices.SortFunc(l, modelCompareShapes)
	return slices.CompactFunc(l, func(a, b []api.Quarter) bool { return slices.Equal(a, b) })
}

func modelSame(a, b []api.Quarter) bool {
	other := modelImages(b)
	return slices.ContainsFunc(modelImages(a), func(s []api.Quarter) bool {
		return slices.ContainsFunc(other, func(o []api.Quarter) bool { return slices.Equal(s, o) })
	})
}

// owners returns, for each segment, the numbers of the quarters that have it.
func owners(s []api.Quarter) map[segment][]int {
	all := map[segment][]int{}
	for i, q := range s {
		for _, side := range segmentsOf(q) {
			all[side] = append(all[side], i)
		}
	}
	return all
}

// modelTouching counts the pairs of touching quarters.
func modelTouching(s []api.Quarter) int {
	count := 0
	for _, l := range owners(s) {
		count += len(l) - 1
	}
	return count
}

// modelPieces gives to all quarters of a piece the number of its first one.
func modelPieces(s []api.Quarter) [][]api.Quarter {
	number := make([]int, len(s))
	for i := range s {
		number[i] = i
	}
	all := owners(s)
	for changed := true; changed; {
		changed = false
		for _, l := range all {
			for _, i := range l {
				for _, k := range l {
					if number[k] < number[i] {
						number[i], changed = number[k], true
					}
				}
			}
		}
	}
	var pieces [][]api.Quarter
	for first := range s {
		var piece []api.Quarter
		for i, q := range s {
			if number[i] == first {
				piece = append(piece, q)
			}
		}
		if len(piece) > 0 {
			pieces = append(pieces, piece)
		}
	}
	return pieces
}

// modelEdges returns the edges that are wanted, of all that there are, in ascending order.
func modelEdges(wanted func(segment) bool) []api.Edge {
	var l []api.Edge
	for y := range 17 {
		for x := range 17 {
			for kind := range 6 {
				if wanted(segmentOf(edge(x, y, kind))) {
					l = append(l, edge(x, y, kind))
				}
			}
		}
	}
	return l
}

func modelBorder(s []api.Quarter) []api.Edge {
	all := owners(s)
	return modelEdges(func(side segment) bool { return len(all[side]) == 1 })
}

func modelJoints(l [][]api.Quarter) []api.Edge {
	var shapes []map[segment][]int
	for _, s := range l {
		shapes = append(shapes, owners(s))
	}
	return modelEdges(func(side segment) bool {
		count := 0
		for _, all := range shapes {
			if len(all[side]) > 0 {
				count++
			}
		}
		return count == 2
	})
}

// modelPlaces goes through all places in their order, and remembers which sets of quarters were there.
func modelPlaces(s, ground []api.Quarter) []api.Place {
	there := map[api.Quarter]bool{}
	for _, q := range ground {
		there[q] = true
	}
	var l []api.Place
	var sets [][]api.Quarter
	for i := range 8 * 16 * 16 {
		p := api.Place{Mirror: i >= 4*256, Turns: i / 256 % 4, Y: i / 16 % 16, X: i % 16}
		put, ok := modelPut(s, p)
		isSet := func(set []api.Quarter) bool { return slices.Equal(set, put) }
		isMissing := func(q api.Quarter) bool { return !there[q] }
		if ok && !slices.ContainsFunc(put, isMissing) && !slices.ContainsFunc(sets, isSet) {
			l, sets = append(l, p), append(sets, put)
		}
	}
	return l
}

// modelText returns the text of a shape in the corner.
func modelText(s []api.Quarter) string {
	sums, right, top := map[spot]int{}, 0, 0
	for _, q := range s {
		sums[spot{q.X, q.Y}] += []int{1, 2, 4, 8}[q.Side]
		right, top = max(right, q.X), max(top, q.Y)
	}
	var rows []string
	for y := top; y >= 0; y-- {
		row := ""
		for x := 0; x <= right; x++ {
			row += string("0123456789abcdef"[sums[spot{x, y}]])
		}
		rows = append(rows, row)
	}
	return strings.Join(rows, "/")
}

// modelRead returns the shape of a text, and reports whether it is one: its rows are equally long, there are not too many of them and of quarters, and none of its four margins is empty.
func modelRead(text string) ([]api.Quarter, bool) {
	rows := strings.Split(text, "/")
	var s []api.Quarter
	columns := map[int]bool{}
	for i := len(rows) - 1; i >= 0; i-- {
		if len(rows[i]) != len(rows[0]) {
			return nil, false
		}
		for x, digit := range []byte(rows[i]) {
			sum := strings.Index("0123456789abcdef", string(digit))
			if sum < 0 {
				return nil, false
			}
			for side := range 4 {
				if sum/[]int{1, 2, 4, 8}[side]%2 == 1 {
					s = append(s, quarter(x, len(rows)-1-i, side))
					columns[x] = true
				}
			}
		}
	}
	height, width := len(rows), len(rows[0])
	if len(s) == 0 || len(s) > 400 || height > 16 || width > 16 {
		return nil, false
	}
	isFull := s[0].Y == 0 && s[len(s)-1].Y == height-1 && columns[0] && columns[width-1]
	return s, isFull
}
