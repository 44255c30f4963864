package peg

import (
	"chiti/api"
	"chiti/surd"
)

// isClaim reports whether a claim has the form of its kind; its pegs may have any numbers.
func isClaim(c api.PegClaim) bool {
	exactly := func(n int) func(int) bool { return func(count int) bool { return count == n } }
	isPolygon := func(count int) bool { return within(count, 3, api.MaxCorners) }
	isPegs, isMore := isPolygon, exactly(0)
	isValue, isBound := isNone, isNone
	switch c.Kind {
	case api.ClaimEqual:
		isPegs = exactly(4)
	case api.ClaimRight, api.ClaimLine:
		isPegs = exactly(3)
	case api.ClaimNear:
		isBound = isNumber
		fallthrough
	case api.ClaimArea:
		isValue = isNumber
	case api.ClaimSame:
		isMore = isPolygon
	default:
		return false
	}
	return isPegs(len(c.Pegs)) && isMore(len(c.More)) && isValue(c.Value) && isBound(c.Bound)
}

// isNone reports whether a number is left out.
func isNone(x api.Number) bool { return x.Den == 0 && len(x.Terms) == 0 }

// chosen returns the points with some numbers.
func chosen(pegs []api.Point, numbers ...int) []api.Point {
	var l []api.Point
	for _, n := range numbers {
		l = append(l, pegs[n])
	}
	return l
}

// holds reports whether a claim is true for its pegs and the other ones; behind an error, its result means nothing.
func (r *reckoner) holds(c api.PegClaim, pegs, more []api.Point) bool {
	switch c.Kind {
	case api.ClaimEqual:
		return same(r.square(pegs[0], pegs[1]), r.square(pegs[2], pegs[3]))
	case api.ClaimRight:
		return signOf(r.dot(r.minus(pegs[0], pegs[1]), r.minus(pegs[2], pegs[1]))) == 0
	case api.ClaimLine:
		return signOf(r.cross(r.minus(pegs[1], pegs[0]), r.minus(pegs[2], pegs[0]))) == 0
	case api.ClaimNear:
		off := r.size(r.sub(r.area(pegs...), c.Value))
		order, _ := surd.Compare(off, c.Bound)
		return order <= 0
	case api.ClaimArea:
		return same(r.area(pegs...), c.Value)
	}
	return same(r.area(pegs...), r.area(more...))
}
