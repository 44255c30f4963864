package peg

import (
	"slices"

	"chiti/api"
)

// mostPegs is how many pegs there are at most: each step puts no more than one beside the two at the start.
const mostPegs = api.MaxSteps + 2

// line is the endless line through two points.
type line struct {
	from, to api.Point
}

// circle has a center, and the square of its cord.
type circle struct {
	center api.Point
	square api.Number
}

// ground is where a construction is carried out; it computes what it needs.
type ground struct {
	reckoner
	pegs    []api.Point
	lines   []line
	circles []circle
}

func newGround(start ...api.Point) *ground {
	g := &ground{}
	for _, p := range start {
		g.pegs = append(g.pegs, copied(p))
	}
	return g
}

func copied(p api.Point) api.Point {
	p.X.Terms, p.Y.Terms = slices.Clone(p.X.Terms), slices.Clone(p.Y.Terms)
	return p
}

// carryOut carries out a step; behind an error, the ground is of no use.
func (g *ground) carryOut(s api.PegStep) api.Errno {
	if !isStep(s) {
		return api.ErrForm
	}
	g.refuse(api.ErrNone, func() bool { return !g.has(s) })
	if g.e == api.OK {
		carriers()[s.Kind](g, s)
	}
	return g.e
}

// carriers returns what carries out a step, by its kind.
func carriers() []func(*ground, api.PegStep) {
	return []func(*ground, api.PegStep){
		api.PegLine:   (*ground).drawLine,
		api.PegCircle: (*ground).drawCircle,
		api.PegCross:  (*ground).putCross,
		api.PegCut:    (*ground).putCut,
		api.PegJoin:   (*ground).putJoin,
		api.PegMark:   (*ground).putMark,
		api.PegGnomon: (*ground).drawGnomon,
		api.PegAlong:  (*ground).putAlong,
	}
}

// has reports whether the pegs, lines and circles that a step uses are there.
func (g *ground) has(s api.PegStep) bool {
	counts := map[rune]int{aPeg: len(g.pegs), aLine: len(g.lines), aCircle: len(g.circles)}
	numbers := numbersOf(s)
	for i, use := range forms[s.Kind].uses {
		if count, counted := counts[use]; counted && !within(numbers[i], 0, count-1) {
			return false
		}
	}
	return true
}

func (g *ground) put(p api.Point) { g.pegs = append(g.pegs, p) }

func (g *ground) draw(from, to api.Point) { g.lines = append(g.lines, line{from, to}) }

// apart refuses two pegs at the same point.
func (g *ground) apart(a, b int) {
	g.refuse(api.ErrTwice, func() bool { return samePoint(g.pegs[a], g.pegs[b]) })
}

func (g *ground) drawLine(s api.PegStep) {
	g.apart(s.A, s.B)
	g.draw(g.pegs[s.A], g.pegs[s.B])
}

func (g *ground) drawGnomon(s api.PegStep) {
	p, l := g.pegs[s.A], g.lines[s.B]
	g.draw(p, g.plus(p, g.turned(g.minus(l.to, l.from))))
}

func (g *ground) drawCircle(s api.PegStep) {
	g.apart(s.B, s.C)
	g.circles = append(g.circles, circle{g.pegs[s.A], g.square(g.pegs[s.B], g.pegs[s.C])})
}

func (g *ground) putCross(s api.PegStep) {
	l, k := g.lines[s.A], g.lines[s.B]
	d, e := g.minus(l.to, l.from), g.minus(k.to, k.from)
	f := g.minus(k.from, l.from)
	n, m := g.cross(f, e), g.cross(d, e)
	g.refuse(api.ErrNone, func() bool { return signOf(m) == 0 })
	g.put(g.plus(l.from, g.times(g.quo(n, m), d)))
}

func (g *ground) putCut(s api.PegStep) {
	l, k := g.lines[s.A], g.circles[s.B]
	d, f := g.minus(l.to, l.from), g.minus(l.from, k.center)
	a, b := g.dot(d, d), g.dot(d, f)
	c := g.sub(g.dot(f, f), k.square)
	square := g.sub(g.mul(b, b), g.mul(a, c))
	g.refuse(api.ErrNone, func() bool { return signOf(square) < 0 })
	w := g.root(square)
	way := g.sub(fraction(0, 1), b)
	if s.N == 0 {
		way = g.sub(way, w)
	} else {
		way = g.add(way, w)
	}
	g.put(g.plus(l.from, g.times(g.quo(way, a), d)))
}

func (g *ground) putJoin(s api.PegStep) {
	l, r := g.circles[s.A], g.circles[s.B]
	d := g.minus(r.center, l.center)
	k := g.dot(d, d)
	g.refuse(api.ErrNone, func() bool { return signOf(k) == 0 })
	u := g.quo(g.add(g.sub(l.square, r.square), k), g.add(k, k))
	square := g.sub(g.quo(l.square, k), g.mul(u, u))
	g.refuse(api.ErrNone, func() bool { return signOf(square) < 0 })
	w := g.root(square)
	foot := g.plus(l.center, g.times(u, d))
	aside := g.times(w, g.turned(d))
	if s.N == 0 {
		g.put(g.plus(foot, aside))
	} else {
		g.put(g.minus(foot, aside))
	}
}

func (g *ground) putMark(s api.PegStep) {
	g.putBetween(s, fraction(s.Num, s.Den))
}

func (g *ground) putAlong(s api.PegStep) {
	g.apart(s.A, s.B)
	way, whole := g.square(g.pegs[s.C], g.pegs[s.D]), g.square(g.pegs[s.A], g.pegs[s.B])
	g.putBetween(s, g.root(g.quo(way, whole)))
}

// putBetween puts a peg t times as far from the peg A as the peg B is.
func (g *ground) putBetween(s api.PegStep, t api.Number) {
	a, b := g.pegs[s.A], g.pegs[s.B]
	g.put(g.plus(a, g.times(t, g.minus(b, a))))
}
