package peg

import (
	"testing"

	"chiti/api"
	"chiti/surd"
)

// model carries out constructions as the chapter tells it, word by word; it stops at an error by a panic with it.
type model struct {
	pegs    []api.Point
	lines   [][2]api.Point
	circles []circle
}

func must(x api.Number, e api.Errno) api.Number {
	if e != api.OK {
		panic(e)
	}
	return x
}

func difference(p, q api.Point) api.Point {
	x := must(surd.Sub(p.X, q.X))
	y := must(surd.Sub(p.Y, q.Y))
	return api.Point{X: x, Y: y}
}

func total(p, q api.Point) api.Point {
	x := must(surd.Add(p.X, q.X))
	y := must(surd.Add(p.Y, q.Y))
	return api.Point{X: x, Y: y}
}

func multiple(t api.Number, p api.Point) api.Point {
	x := must(surd.Mul(t, p.X))
	y := must(surd.Mul(t, p.Y))
	return api.Point{X: x, Y: y}
}

func left(d api.Point) api.Point {
	return api.Point{X: must(surd.Sub(api.Number{Den: 1}, d.Y)), Y: d.X}
}

func dotOf(p, q api.Point) api.Number {
	x := must(surd.Mul(p.X, q.X))
	y := must(surd.Mul(p.Y, q.Y))
	return must(surd.Add(x, y))
}

func crossOf(p, q api.Point) api.Number {
	x := must(surd.Mul(p.X, q.Y))
	y := must(surd.Mul(p.Y, q.X))
	return must(surd.Sub(x, y))
}

func squareOf(p, q api.Point) api.Number {
	d := difference(q, p)
	return dotOf(d, d)
}

func stopIf(stops bool, e api.Errno) {
	if stops {
		panic(e)
	}
}

func areaOf(corners ...api.Point) api.Number {
	sum := api.Number{Den: 1}
	for i := range corners {
		k := i + 1
		if k == len(corners) {
			k = 0
		}
		sum = must(surd.Add(sum, crossOf(corners[i], corners[k])))
	}
	sum = must(surd.Mul(sum, api.Number{Den: 2, Terms: []api.Term{{Coef: 1, Root: 1}}}))
	if sign, _ := surd.Sign(sum); sign < 0 {
		sum = must(surd.Sub(api.Number{Den: 1}, sum))
	}
	return sum
}

func sign(x api.Number) int {
	n, e := surd.Sign(x)
	stopIf(e != api.OK, e)
	return n
}

func (m *model) step(s api.PegStep) {
	switch s.Kind {
	case api.PegLine:
		stopIf(samePoint(m.pegs[s.A], m.pegs[s.B]), api.ErrTwice)
		m.lines = append(m.lines, [2]api.Point{m.pegs[s.A], m.pegs[s.B]})
	case api.PegGnomon:
		r, s0 := m.lines[s.B][0], m.lines[s.B][1]
		d := difference(s0, r)
		v := left(d)
		m.lines = append(m.lines, [2]api.Point{m.pegs[s.A], total(m.pegs[s.A], v)})
	case api.PegCircle:
		stopIf(samePoint(m.pegs[s.B], m.pegs[s.C]), api.ErrTwice)
		m.circles = append(m.circles, circle{m.pegs[s.A], squareOf(m.pegs[s.B], m.pegs[s.C])})
	case api.PegMark:
		t := must(surd.Make(s.Den, []api.Term{{Coef: s.Num, Root: 1}}))
		m.pegs = append(m.pegs, total(m.pegs[s.A], multiple(t, difference(m.pegs[s.B], m.pegs[s.A]))))
	case api.PegAlong:
		stopIf(samePoint(m.pegs[s.A], m.pegs[s.B]), api.ErrTwice)
		way := squareOf(m.pegs[s.C], m.pegs[s.D])
		whole := squareOf(m.pegs[s.A], m.pegs[s.B])
		t := must(surd.Root(must(surd.Quo(way, whole))))
		m.pegs = append(m.pegs, total(m.pegs[s.A], multiple(t, difference(m.pegs[s.B], m.pegs[s.A]))))
	default:
		m.pegs = append(m.pegs, m.meeting(s))
	}
}

func (m *model) meeting(s api.PegStep) api.Point {
	switch s.Kind {
	case api.PegCross:
		p, q, r, s0 := m.lines[s.A][0], m.lines[s.A][1], m.lines[s.B][0], m.lines[s.B][1]
		d := difference(q, p)
		e := difference(s0, r)
		f := difference(r, p)
		n := crossOf(f, e)
		under := crossOf(d, e)
		stopIf(sign(under) == 0, api.ErrNone)
		t := must(surd.Quo(n, under))
		return total(p, multiple(t, d))
	case api.PegCut:
		p, q, center, r := m.lines[s.A][0], m.lines[s.A][1], m.circles[s.B].center, m.circles[s.B].square
		d := difference(q, p)
		f := difference(p, center)
		a := dotOf(d, d)
		b := dotOf(d, f)
		c := must(surd.Sub(dotOf(f, f), r))
		bb := must(surd.Mul(b, b))
		ac := must(surd.Mul(a, c))
		g := must(surd.Sub(bb, ac))
		stopIf(sign(g) < 0, api.ErrNone)
		w := must(surd.Root(g))
		minus := must(surd.Sub(api.Number{Den: 1}, b))
		var top api.Number
		if s.N == 0 {
			top = must(surd.Sub(minus, w))
		} else {
			top = must(surd.Add(minus, w))
		}
		return total(p, multiple(must(surd.Quo(top, a)), d))
	}
	center, r, other, s0 := m.circles[s.A].center, m.circles[s.A].square, m.circles[s.B].center, m.circles[s.B].square
	d := difference(other, center)
	k := dotOf(d, d)
	stopIf(sign(k) == 0, api.ErrNone)
	less := must(surd.Sub(r, s0))
	top := must(surd.Add(less, k))
	twice := must(surd.Add(k, k))
	u := must(surd.Quo(top, twice))
	part := must(surd.Quo(r, k))
	uu := must(surd.Mul(u, u))
	h := must(surd.Sub(part, uu))
	stopIf(sign(h) < 0, api.ErrNone)
	w := must(surd.Root(h))
	foot := total(center, multiple(u, d))
	if s.N == 0 {
		return total(foot, multiple(w, left(d)))
	}
	return difference(foot, multiple(w, left(d)))
}

// caught returns the error with which what is done stops.
func caught(do func()) (e api.Errno) {
	defer func() {
		if stopped, is := recover().(api.Errno); is {
			e = stopped
		}
	}()
	do()
	return api.OK
}

// modelRun returns what Run returns for a start and steps that are valid and use what there is.
func modelRun(start [2]api.Point, l []api.PegStep) (pegs []api.Point, at int, e api.Errno) {
	m := &model{pegs: start[:]}
	for i, s := range l {
		if e := caught(func() { m.step(s) }); e != api.OK {
			return nil, i, e
		}
	}
	return m.pegs, 0, api.OK
}

// P3.1: constructions with numbers of all sizes have the pegs, and the errors, of the chapter's own words.
func TestRunAsTold(t *testing.T) {
	next := pseudo()
	seen := map[api.PegKind]map[api.Errno]int{}
	for i := range 6000 {
		size := []int{1, 2, 3, 5, 9, 30, 100, 1000, 30000, 100000}[i%10]
		start := [2]api.Point{somePoint(next, 1+i%3, size), somePoint(next, 1+i%2, size)}
		if samePoint(start[0], start[1]) {
			continue
		}
		l := construction(next, start, 12)
		for range 12 {
			s := someStep(next, countsOf(l))
			longer := append(l[:len(l):len(l)], s)
			pegs, at, e := Run(start, longer)
			want, wantAt, wantError := modelRun(start, longer)
			if !samePoints(pegs, want) || at != wantAt || e != wantError {
				t.Fatal(start, longer, pegs, at, e, want, wantAt, wantError)
			}
			if seen[s.Kind] == nil {
				seen[s.Kind] = map[api.Errno]int{}
			}
			seen[s.Kind][e]++
		}
	}
	for kind, errors := range map[api.PegKind][]api.Errno{
		api.PegLine:   {api.OK, api.ErrTwice},
		api.PegCircle: {api.OK, api.ErrTwice, api.ErrFull, api.ErrOver},
		api.PegCross:  {api.OK, api.ErrNone, api.ErrFull, api.ErrOver, api.ErrSurd},
		api.PegCut:    {api.OK, api.ErrNone, api.ErrOver, api.ErrSurd},
		api.PegJoin:   {api.OK, api.ErrNone, api.ErrOver, api.ErrSurd},
		api.PegMark:   {api.OK, api.ErrOver},
		api.PegGnomon: {api.OK, api.ErrOver},
		api.PegAlong:  {api.OK, api.ErrTwice, api.ErrFull, api.ErrOver, api.ErrSurd},
	} {
		for _, e := range errors {
			if seen[kind][e] < 20 {
				t.Error("only so many of the kind", kind, "with the error", e, "were tried:", seen[kind][e])
			}
		}
	}
}

// P3.1: of several errors of a step, the one of what is computed first: on grounds where many things are too great, or have too many terms.
func TestFirstErrorsAsTold(t *testing.T) {
	next := pseudo()
	number := func(texts ...string) api.Number { return num(t, texts[next(len(texts))]) }
	coordinate := func() api.Number {
		return number("0", "0", "0", "1", "-1", "2", "1/2", "r2", "r2/2", "1+r2", "r3+r5+r6", "1+r2+r3", "-r5+r7", "300", "-400", "1/99999", "1/400", "60000", "-60000", "100r2", "500r3")
	}
	square := func() api.Number {
		return number("1", "2", "5", "1/4", "3+2r2", "6+2r2+2r3+2r6", "8+2r15", "100000", "1/99999", "25000", "2-r2+r3", "70000r2")
	}
	somewhere := func() api.Point { return api.Point{X: coordinate(), Y: coordinate()} }
	seen := map[api.PegKind]map[api.Errno]int{}
	for range 150000 {
		g, m := newGround(somewhere(), somewhere(), somewhere(), somewhere()), &model{}
		m.pegs = append(m.pegs, g.pegs...)
		for range 2 {
			if from, to := somewhere(), somewhere(); !samePoint(from, to) {
				g.draw(from, to)
				m.lines = append(m.lines, [2]api.Point{from, to})
			}
			k := circle{somewhere(), square()}
			g.circles = append(g.circles, k)
			m.circles = append(m.circles, k)
		}
		s := someStep(next, counts{len(g.pegs), len(g.lines), len(g.circles)})
		e, want := g.carryOut(s), caught(func() { m.step(s) })
		if e != want || e == api.OK && !samePoints(g.pegs, m.pegs) {
			t.Fatal(s, toldPoints(m.pegs), m.lines, m.circles, e, want)
		}
		if seen[s.Kind] == nil {
			seen[s.Kind] = map[api.Errno]int{}
		}
		seen[s.Kind][e]++
	}
	for kind := api.PegCross; kind <= api.PegJoin; kind++ {
		for _, e := range []api.Errno{api.OK, api.ErrFull, api.ErrOver, api.ErrSurd} {
			if seen[kind][e] < 20 {
				t.Error("only so many of the kind", kind, "with the error", e, "were tried:", seen[kind][e])
			}
		}
	}
}

// P3.1: of two errors of PegJoin late in its computation, the first one.
func TestLateErrorsOfJoins(t *testing.T) {
	for i, c := range []struct {
		center, square, other, more string
		want                        api.Errno
	}{
		// r / k comes ahead of u * u.
		{"0 0", "1/99999", "2 r3", "(1+99999r2+99999r3+99999r5)/99999", api.ErrOver},
		{"0 0", "1+r3+r5+r7", "1+r2 0", "1001+r3+r5+r7", api.ErrFull},
		// The root of h comes ahead of u * d.
		{"99999 0", "6+r2", "100000 0", "3+r2", api.ErrSurd},
		// C + u * d comes ahead of w * v.
		{"99999 0", "192+64r6+24r35+8r210", "100000+r2+r3 1-r2-r3", "156+52r6+24r35+8r210", api.ErrOver},
		{"1+r2+r3+r5 0", "(2625-125r185)/2", "1+r2+r3+r37 0", "(2625-125r185)/2", api.ErrFull},
	} {
		g := newGround()
		g.circles = []circle{{at(t, c.center), num(t, c.square)}, {at(t, c.other), num(t, c.more)}}
		if e := g.carryOut(api.PegStep{Kind: api.PegJoin, B: 1}); e != c.want {
			t.Error(i, e)
		}
	}
}
