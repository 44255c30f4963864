package peg

import (
	"math/big"
	"testing"

	"chiti/api"
)

// drawing is what is approximately on the ground: pegs, lines by a point and a direction, circles by a center and a square.
type drawing struct {
	pegs    []vector
	lines   [][2]vector
	centers []vector
	squares []*big.Float
}

// draw draws what a step draws, without a peg.
func (d *drawing) draw(s api.PegStep) {
	switch s.Kind {
	case api.PegLine:
		d.lines = append(d.lines, [2]vector{d.pegs[s.A], d.pegs[s.B].minus(d.pegs[s.A])})
	case api.PegGnomon:
		// It is turned by a right angle, to the left.
		way := d.lines[s.B][1]
		d.lines = append(d.lines, [2]vector{d.pegs[s.A], {mul(float(-1), way.y), way.x}})
	case api.PegCircle:
		d.centers = append(d.centers, d.pegs[s.A])
		d.squares = append(d.squares, d.pegs[s.B].squareTo(d.pegs[s.C]))
	}
}

func (d *drawing) onLine(p vector, line int) bool {
	l := d.lines[line]
	return near(p.minus(l[0]).cross(l[1]), float(0))
}

func (d *drawing) onCircle(p vector, circle int) bool {
	return near(p.squareTo(d.centers[circle]), d.squares[circle])
}

// notBelow reports whether a is at least b, but for rounding.
func notBelow(a, b *big.Float) bool { return near(a, b) || a.Cmp(b) > 0 }

// isRight reports whether p is where a step that puts a peg is to put it.
func (d *drawing) isRight(s api.PegStep, p vector) bool {
	switch s.Kind {
	case api.PegCross:
		return d.onLine(p, s.A) && d.onLine(p, s.B)
	case api.PegCut:
		return d.onLine(p, s.A) && d.onCircle(p, s.B) && d.onSide(s, p)
	case api.PegJoin:
		between := d.centers[s.B].minus(d.centers[s.A])
		left := float(1 - 2*s.N)
		return d.onCircle(p, s.A) && d.onCircle(p, s.B) && notBelow(mul(left, between.cross(p.minus(d.centers[s.A]))), float(0))
	}
	a, b := d.pegs[s.A], d.pegs[s.B]
	if s.Kind == api.PegMark {
		want := a.plus(b.minus(a).times(quo(float(s.Num), float(s.Den))))
		return near(p.x, want.x) && near(p.y, want.y)
	}
	onCord := near(b.minus(a).cross(p.minus(a)), float(0)) && notBelow(b.minus(a).dot(p.minus(a)), float(0))
	return onCord && near(a.squareTo(p), d.pegs[s.C].squareTo(d.pegs[s.D]))
}

// onSide reports whether the peg of a PegCut is on its side of the middle of both points: the first one along the line, or the second one.
func (d *drawing) onSide(s api.PegStep, p vector) bool {
	ahead := float(2*s.N - 1)
	return notBelow(mul(ahead, p.minus(d.centers[s.B]).dot(d.lines[s.A][1])), float(0))
}

// P3.8: a peg that is put is where its step is to put it.
func TestPegsAreRight(t *testing.T) {
	next := pseudo()
	count := map[api.PegKind]int{}
	for i := range 3000 {
		start := [2]api.Point{somePoint(next, 1+i%2, 4), somePoint(next, 1, 4)}
		if samePoint(start[0], start[1]) {
			continue
		}
		l := construction(next, start, 16)
		pegs, _, e := Run(start, l)
		if e != api.OK {
			t.Error(start, l, e)
		}
		d := &drawing{pegs: []vector{vectorOf(start[0]), vectorOf(start[1])}}
		for _, s := range l {
			count[s.Kind]++
			if s.Kind == api.PegLine || s.Kind == api.PegGnomon || s.Kind == api.PegCircle {
				d.draw(s)
				continue
			}
			p := vectorOf(pegs[len(d.pegs)])
			if !d.isRight(s, p) {
				t.Error(start, l, s, toldPoint(pegs[len(d.pegs)]))
			}
			d.pegs = append(d.pegs, p)
		}
		if len(pegs) != len(d.pegs) {
			t.Error(start, l, toldPoints(pegs))
		}
	}
	for kind := api.PegLine; kind <= api.PegAlong; kind++ {
		if count[kind] < 500 {
			t.Error("only so many were tried:", kind, count[kind])
		}
	}
}

// P3.8: the same, exactly, by squares and claims.
func TestPegsAreExact(t *testing.T) {
	for _, c := range []struct {
		p, q, text string
		claims     []api.PegClaim
	}{
		// The peg of a gnomon's line makes a right angle.
		{"0 0", "3 1", "line 0 1,gnomon 1 0,circle 1 0 1,cut 1 0 1,cut 1 0 0,", []api.PegClaim{claim(api.ClaimRight, 0, 1, 2), claim(api.ClaimRight, 0, 1, 3), claim(api.ClaimLine, 2, 1, 3), claim(api.ClaimEqual, 1, 2, 1, 3), claim(api.ClaimEqual, 0, 1, 1, 3)}},
		{"1/2 r2", "r2 -1", "line 0 1,circle 0 0 1,circle 1 0 1,join 0 1 0,join 0 1 1,", []api.PegClaim{claim(api.ClaimEqual, 0, 1, 0, 2), claim(api.ClaimEqual, 0, 1, 1, 2), claim(api.ClaimEqual, 0, 1, 0, 3), claim(api.ClaimEqual, 0, 1, 1, 3)}},
		{"1 1", "3 2", "mark 0 1 3/1,line 0 1,gnomon 2 0,gnomon 0 1,cross 1 2,along 0 2 1 2,mark 0 1 2/1,", []api.PegClaim{claim(api.ClaimLine, 0, 2, 3), claim(api.ClaimEqual, 0, 4, 1, 2), claim(api.ClaimLine, 0, 4, 2), claim(api.ClaimEqual, 0, 5, 0, 4)}},
		// A square on a cord, with its area.
		{"0 0", "2 1", "line 0 1,gnomon 0 0,gnomon 1 0,circle 0 0 1,circle 1 0 1,cut 1 0 1,cut 2 1 1,", []api.PegClaim{areaClaim(t, "5", 0, 1, 3, 2), claim(api.ClaimRight, 0, 2, 3), claim(api.ClaimEqual, 0, 3, 1, 2), sameClaim([]int{0, 1, 2}, []int{1, 2, 3})}},
	} {
		if first, e := Verify(pair(t, c.p, c.q), steps(t, c.text), c.claims); first != -1 || e != api.OK {
			t.Error(c.p, c.q, c.text, first, e)
		}
	}
}
