package peg

import (
	"math"
	"math/big"
	"slices"
	"strings"
	"testing"

	"chiti/api"
	"chiti/surd"
)

const precision = 600 // bits of the approximations that results are held against

// num returns the number of a text, and an invalid one for the text no.
func num(t *testing.T, s string) api.Number {
	t.Helper()
	if s == "no" {
		return api.Number{Den: 2}
	}
	x, e := surd.Parse(s)
	if e != api.OK {
		t.Fatalf("surd.Parse(%q): error %d", s, e)
	}
	return x
}

// at returns the point with the texts of both coordinates, which a space separates.
func at(t *testing.T, s string) api.Point {
	t.Helper()
	x, y, _ := strings.Cut(s, " ")
	return api.Point{X: num(t, x), Y: num(t, y)}
}

func ats(t *testing.T, texts ...string) []api.Point {
	t.Helper()
	var l []api.Point
	for _, s := range texts {
		l = append(l, at(t, s))
	}
	return l
}

func pair(t *testing.T, p, q string) [2]api.Point {
	t.Helper()
	return [2]api.Point{at(t, p), at(t, q)}
}

func unit(t *testing.T) [2]api.Point { return pair(t, "0 0", "1 0") }

func told(x api.Number) string {
	s, _ := surd.Format(x)
	return s
}

func toldPoint(p api.Point) string { return told(p.X) + " " + told(p.Y) }

// toldPoints returns the texts of points, with a comma after each one.
func toldPoints(l []api.Point) string {
	s := ""
	for _, p := range l {
		s += toldPoint(p) + ","
	}
	return s
}

func samePoints(l, m []api.Point) bool { return slices.EqualFunc(l, m, samePoint) }

// steps returns the steps of a text in which commas stand for the ends of the lines.
func steps(t *testing.T, s string) []api.PegStep {
	t.Helper()
	l, line, e := Read(strings.ReplaceAll(s, ",", "\n"))
	if e != api.OK {
		t.Fatalf("Read(%q): error %d in line %d", s, e, line)
	}
	return l
}

func float(n int) *big.Float { return new(big.Float).SetPrec(precision).SetInt64(int64(n)) }

// approximate returns a number's value, much more exactly than two numbers can be near to each other in these tests.
func approximate(x api.Number) *big.Float {
	total := float(0)
	for _, u := range x.Terms {
		root := new(big.Float).SetPrec(precision).Sqrt(float(u.Root))
		total.Add(total, root.Mul(root, float(u.Coef)))
	}
	return total.Quo(total, float(x.Den))
}

func add(a, b *big.Float) *big.Float { return new(big.Float).Add(a, b) }
func sub(a, b *big.Float) *big.Float { return new(big.Float).Sub(a, b) }
func mul(a, b *big.Float) *big.Float { return new(big.Float).Mul(a, b) }
func quo(a, b *big.Float) *big.Float { return new(big.Float).Quo(a, b) }

// near reports whether a and b agree but for the rounding of approximations.
func near(a, b *big.Float) bool {
	d := sub(a, b)
	return d.Sign() == 0 || d.MantExp(nil) < -precision/2
}

// vector is an approximate point.
type vector struct{ x, y *big.Float }

func vectorOf(p api.Point) vector { return vector{approximate(p.X), approximate(p.Y)} }

func (v vector) plus(w vector) vector         { return vector{add(v.x, w.x), add(v.y, w.y)} }
func (v vector) minus(w vector) vector        { return vector{sub(v.x, w.x), sub(v.y, w.y)} }
func (v vector) times(t *big.Float) vector    { return vector{mul(t, v.x), mul(t, v.y)} }
func (v vector) dot(w vector) *big.Float      { return add(mul(v.x, w.x), mul(v.y, w.y)) }
func (v vector) cross(w vector) *big.Float    { return sub(mul(v.x, w.y), mul(v.y, w.x)) }
func (v vector) squareTo(w vector) *big.Float { return w.minus(v).dot(w.minus(v)) }

// pseudo returns a function that yields integers from 0 to below n, the same ones in every run.
func pseudo() func(n int) int {
	state := uint64(88172645463325252)
	return func(n int) int {
		state ^= state << 13
		state ^= state >> 7
		state ^= state << 17
		return int(state % uint64(n))
	}
}

// someNumber returns a number with up to so many terms, with coefficients and a denominator up to size.
func someNumber(next func(n int) int, terms, size int) api.Number {
	for {
		var parts []api.Term
		for range next(terms + 1) {
			parts = append(parts, api.Term{Coef: next(2*size+1) - size, Root: []int{1, 1, 2, 3, 5}[next(5)]})
		}
		if x, e := surd.Make(1+next(size), parts); e == api.OK {
			return x
		}
	}
}

func somePoint(next func(n int) int, terms, size int) api.Point {
	return api.Point{X: someNumber(next, terms, size), Y: someNumber(next, terms, size)}
}

func somePoints(next func(n int) int, count, terms, size int) []api.Point {
	var l []api.Point
	for range count {
		l = append(l, somePoint(next, terms, size))
	}
	return l
}

// counts is how many pegs, lines and circles there are.
type counts struct{ pegs, lines, circles int }

func countsOf(l []api.PegStep) counts {
	c := counts{pegs: 2}
	for _, s := range l {
		switch s.Kind {
		case api.PegLine, api.PegGnomon:
			c.lines++
		case api.PegCircle:
			c.circles++
		default:
			c.pegs++
		}
	}
	return c
}

// someStep returns a step that uses some of what there is.
func someStep(next func(n int) int, c counts) api.PegStep {
	peg, line, circle := func() int { return next(c.pegs) }, func() int { return next(c.lines) }, func() int { return next(c.circles) }
	switch kind := api.PegKind(1 + next(8)); {
	case kind == api.PegLine, kind == api.PegGnomon && c.lines == 0:
		return api.PegStep{Kind: api.PegLine, A: peg(), B: peg()}
	case kind == api.PegGnomon:
		return api.PegStep{Kind: kind, A: peg(), B: line()}
	case kind == api.PegCross && c.lines > 0:
		return api.PegStep{Kind: kind, A: line(), B: line()}
	case kind == api.PegCut && c.lines > 0 && c.circles > 0:
		return api.PegStep{Kind: kind, A: line(), B: circle(), N: next(2)}
	case kind == api.PegJoin && c.circles > 0:
		return api.PegStep{Kind: kind, A: circle(), B: circle(), N: next(2)}
	case kind == api.PegMark:
		return api.PegStep{Kind: kind, A: peg(), B: peg(), Num: next(9) - 4, Den: 1 + next(4)}
	case kind == api.PegAlong:
		return api.PegStep{Kind: kind, A: peg(), B: peg(), C: peg(), D: peg()}
	}
	return api.PegStep{Kind: api.PegCircle, A: peg(), B: peg(), C: peg()}
}

// construction returns those of some steps that are not refused, one after another.
func construction(next func(n int) int, start [2]api.Point, tries int) []api.PegStep {
	var done []api.PegStep
	for range tries {
		longer := append(slices.Clone(done), someStep(next, countsOf(done)))
		if _, _, e := Run(start, longer); e == api.OK {
			done = longer
		}
	}
	return done
}

func extremes() []int {
	return []int{math.MinInt, math.MinInt + 1, -100001, -1, 0, 1, 2, 3, 20, 21, 42, 999, 1000, 100000, 100001, math.MaxInt - 1, math.MaxInt}
}
