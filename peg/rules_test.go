package peg

import (
	"slices"
	"strings"
	"testing"

	"chiti/api"
)

// wildNumbers returns numbers of every kind, most of them invalid.
func wildNumbers() []api.Number {
	l := []api.Number{
		{}, {Den: 1}, {Den: -1}, {Den: 2}, {Den: 1, Terms: make([]api.Term, 1<<16)},
		{Den: 1, Terms: []api.Term{{Coef: 1, Root: 2}, {Coef: 1, Root: 1}}},
		{Den: 99999, Terms: []api.Term{{Coef: 100000, Root: 991}, {Coef: -100000, Root: 994}, {Coef: 100000, Root: 995}, {Coef: -99998, Root: 997}}},
		{Den: 99999, Terms: []api.Term{{Coef: -99998, Root: 1}, {Coef: 100000, Root: 2}}},
		{Den: 1, Terms: []api.Term{{Coef: -100000, Root: 1}}}, {Den: 100000, Terms: []api.Term{{Coef: 1, Root: 1}}},
		{Den: 1, Terms: []api.Term{{Coef: 2, Root: 1}, {Coef: 1, Root: 2}, {Coef: 1, Root: 3}}},
	}
	for _, n := range extremes() {
		l = append(l, api.Number{Den: n, Terms: []api.Term{{Coef: 1, Root: 1}}}, api.Number{Den: 1, Terms: []api.Term{{Coef: n, Root: 1}}}, api.Number{Den: 3, Terms: []api.Term{{Coef: 1, Root: n}}})
	}
	return l
}

func wildPoints() []api.Point {
	var l []api.Point
	numbers := wildNumbers()
	for i, x := range numbers {
		l = append(l, api.Point{X: x, Y: numbers[(i*7+1)%len(numbers)]}, api.Point{X: x, Y: x}, api.Point{X: fraction(i, 1), Y: x})
	}
	return l
}

func wildSteps() []api.PegStep {
	next := pseudo()
	wild := func() int { return extremes()[next(len(extremes()))] }
	few := func() int { return next(4) * next(2) }
	var l []api.PegStep
	for range 300 {
		l = append(l, api.PegStep{Kind: api.PegKind(wild()), A: wild(), B: wild(), C: wild(), D: wild(), N: wild(), Num: wild(), Den: wild()})
		l = append(l, api.PegStep{Kind: api.PegKind(1 + next(8)), A: few(), B: few(), C: few(), D: few(), N: few(), Num: few(), Den: few()})
		l = append(l, someStep(next, counts{3, 2, 2}))
	}
	return l
}

func arePoints(l []api.Point) bool { return every(isPoint, l...) }

// P1: no function with points panics, and with an error every other result is zero.
func TestWildPoints(t *testing.T) {
	points := wildPoints()
	text := steps(t, "line 0 1,gnomon 0 0,circle 0 0 1,circle 1 0 1,cut 1 0 1,join 0 1 0,mark 0 1 1/3,cross 0 1,along 0 1 1 2,")
	for i, p := range points {
		for k, q := range points {
			if x, e := Square(p, q); e != api.OK && !isNone(x) || e == api.OK && !isNumber(x) {
				t.Error("Square", i, k, x, e)
			}
			r := points[(i+k)%len(points)]
			if x, e := Area([]api.Point{p, q, r}); e != api.OK && !isNone(x) || e == api.OK && !isNumber(x) {
				t.Error("Area", i, k, x, e)
			}
			l, e := Move([]api.Point{p, q}, r.X, (i+k)%6-1, r)
			if e != api.OK && l != nil || e == api.OK && (len(l) != 2 || !arePoints(l)) {
				t.Error("Move", i, k, l, e)
			}
			pegs, at, e := Run([2]api.Point{p, q}, text)
			if e != api.OK && pegs != nil || e == api.OK && (at != 0 || !arePoints(pegs)) || at < 0 || len(text) <= at {
				t.Error("Run", i, k, pegs, at, e)
			}
			for kind := api.ClaimKind(-1); kind < 8; kind++ {
				c := api.PegClaim{Kind: kind, Pegs: []int{0, i, k}, More: []int{k, 1, 0}, Value: q.X, Bound: p.Y}
				if holds, e := Holds([]api.Point{p, q, r, p}, c); e != api.OK && holds {
					t.Error("Holds", i, k, kind, holds, e)
				}
			}
		}
	}
}

// P1: no function with steps or claims panics, and with an error every other result is zero.
func TestWildSteps(t *testing.T) {
	first := steps(t, "line 0 1,gnomon 0 0,circle 0 0 1,circle 1 0 1,mark 0 1 0/1,")
	for i, s := range wildSteps() {
		l := append(first[:len(first):len(first)], s)
		pegs, at, e := Run(unit(t), l)
		if e != api.OK && (pegs != nil || at != len(first)) || e == api.OK && at != 0 {
			t.Error("Run", i, s, pegs, at, e)
		}
		if text, f := Write(l); (f == api.OK) != (text != "") || e == api.OK && f != api.OK {
			t.Error("Write", i, s, text, f)
		}
		c := api.PegClaim{Kind: api.ClaimKind(s.Kind), Pegs: []int{s.A, s.B, s.C, s.D}[:3+i%2], More: []int{s.N, s.Num, s.Den}}
		claims := []api.PegClaim{c, {Kind: api.ClaimLine, Pegs: c.Pegs}, {Kind: api.ClaimArea, Pegs: c.Pegs, Value: fraction(0, 1)}}
		for k := range claims {
			if holds, e := Holds(pegs, claims[k]); e != api.OK && holds {
				t.Error("Holds", i, c, holds, e)
			}
			if at, e := Verify(unit(t), first, claims[k:]); at < -1 || len(claims) <= at || e != api.OK && at < 0 {
				t.Error("Verify", i, c, at, e)
			}
		}
		scale := api.Number{Den: s.Den, Terms: []api.Term{{Coef: s.Num, Root: s.N}}}
		if l, e := Move(pegs, scale, s.A, api.Point{X: scale, Y: fraction(1, 1)}); e != api.OK && l != nil {
			t.Error("Move", i, l, e)
		}
	}
	huge := make([]api.PegStep, 1<<20)
	if _, at, e := Run(unit(t), huge); at != 0 || e != api.ErrLong {
		t.Error(at, e)
	}
	many := api.PegClaim{Kind: api.ClaimArea, Pegs: make([]int, 1<<20), Value: fraction(0, 1)}
	if _, e := Holds(wildPoints()[:2], many); e != api.ErrArg {
		t.Error(e)
	}
	if _, e := Holds(nil, many); e != api.ErrForm {
		t.Error(e)
	}
}

// P1: Read ends for all texts, with an error in one of its lines.
func TestWildTexts(t *testing.T) {
	next := pseudo()
	words := []string{"line", "circle", "cross", "cut", "join", "mark", "gnomon", "along", " ", " ", " ", " ", "\n", "\n", "0", "1", "2", "/", "-", "1/2", "\xff", "\x00", "é", "line 0 1\n", "mark 0 1 1/2\n", strings.Repeat("9", 400)}
	for range 20000 {
		s := ""
		for range next(40) {
			s += words[next(len(words))]
		}
		l, line, e := Read(s)
		lines := strings.Count(s, "\n") + 1
		if e != api.OK && (l != nil || line > lines || line < 1 && e != api.ErrLong) || e == api.OK && line != 0 {
			t.Errorf("%q %v %d %d", s, l, line, e)
		}
	}
}

// R3: a nil list and an empty one are the same.
func TestNilAndEmpty(t *testing.T) {
	zero := api.Number{Den: 1, Terms: []api.Term{}}
	origin := api.Point{X: zero, Y: api.Number{Den: 1}}
	east := api.Point{X: fraction(1, 1), Y: zero}
	if pegs, at, e := Run([2]api.Point{origin, east}, []api.PegStep{}); toldPoints(pegs) != "0 0,1 0," || at != 0 || e != api.OK {
		t.Error(pegs, at, e)
	}
	if _, _, e := Run([2]api.Point{origin, {X: api.Number{Den: 1}, Y: zero}}, nil); e != api.ErrTwice {
		t.Error(e)
	}
	if x, e := Area([]api.Point{}); told(x) != "0" || e != api.OK {
		t.Error(x, e)
	}
	if x, e := Square(origin, east); told(x) != "1" || e != api.OK {
		t.Error(x, e)
	}
	pegs := []api.Point{origin, east, at(t, "2 0")}
	for i, c := range []api.PegClaim{
		{Kind: api.ClaimLine, Pegs: []int{0, 1, 2}, More: []int{}},
		{Kind: api.ClaimLine, Pegs: []int{0, 1, 2}, Value: api.Number{Terms: []api.Term{}}, Bound: api.Number{Terms: []api.Term{}}},
		{Kind: api.ClaimArea, Pegs: []int{0, 1, 2}, More: []int{}, Value: zero},
		{Kind: api.ClaimNear, Pegs: []int{0, 1, 2}, Value: zero, Bound: zero},
	} {
		if holds, e := Holds(pegs, c); !holds || e != api.OK {
			t.Error(i, holds, e)
		}
	}
	if first, e := Verify([2]api.Point{origin, east}, []api.PegStep{}, []api.PegClaim{}); first != -1 || e != api.OK {
		t.Error(first, e)
	}
	if l, e := Move([]api.Point{}, fraction(1, 1), 0, origin); len(l) != 0 || e != api.OK {
		t.Error(l, e)
	}
	if s, e := Write([]api.PegStep{}); s != "" || e != api.OK {
		t.Error(s, e)
	}
}

// roomy returns a copy of a number with room behind its terms, which an append would take.
func roomy(x api.Number) api.Number {
	return api.Number{Den: x.Den, Terms: append(make([]api.Term, 0, 8), x.Terms...)}
}

func roomyPoint(p api.Point) api.Point { return api.Point{X: roomy(p.X), Y: roomy(p.Y)} }

// scribble writes over the terms of a number, and over the spare room behind them.
func scribble(x api.Number) {
	terms := x.Terms[:cap(x.Terms)]
	for i := range terms {
		terms[i] = api.Term{Coef: -9, Root: -9}
	}
}

func scribblePoint(p api.Point) {
	scribble(p.X)
	scribble(p.Y)
}

func numbersOfPoints(l []api.Point) []api.Number {
	var all []api.Number
	for _, p := range l {
		all = append(all, p.X, p.Y)
	}
	return all
}

func tellAll(l []api.Number) []string {
	var texts []string
	for _, x := range l {
		texts = append(texts, told(x))
	}
	return texts
}

// R4: no call changes a point, and no result shares memory with it.
func TestMemory(t *testing.T) {
	l := steps(t, "line 0 1,gnomon 0 0,circle 0 0 1,cut 1 0 1,cut 1 0 0,mark 0 1 1/1,mark 0 1 0/1,along 0 1 0 1,circle 1 0 1,join 0 1 0,join 0 1 1,gnomon 1 0,line 0 2,gnomon 2 3,cross 2 4,cross 0 3,")
	claims := []api.PegClaim{{Kind: api.ClaimArea, Pegs: []int{0, 1, 0}, Value: fraction(5, 1)}, {Kind: api.ClaimNear, Pegs: []int{0, 1, 1}, Value: fraction(5, 1), Bound: fraction(7, 1)}, sameClaim([]int{0, 1, 1}, []int{1, 1, 0}), claim(api.ClaimEqual, 0, 0, 1, 0)}
	calls := []func(p, q api.Point) []api.Point{
		func(p, q api.Point) []api.Point { pegs, _, _ := Run([2]api.Point{p, q}, l); return pegs },
		func(p, q api.Point) []api.Point { pegs, _, _ := Run([2]api.Point{p, q}, nil); return pegs },
		func(p, q api.Point) []api.Point { x, _ := Square(p, q); return []api.Point{{X: x}} },
		func(p, q api.Point) []api.Point { x, _ := Area([]api.Point{p, q, p}); return []api.Point{{X: x}} },
		func(p, q api.Point) []api.Point {
			x, _ := Area([]api.Point{p, q, at(t, "1 0")})
			return []api.Point{{X: x}}
		},
		func(p, q api.Point) []api.Point {
			m, _ := Move([]api.Point{p, q, p}, fraction(1, 1), 0, at(t, "0 0"))
			return m
		},
		func(p, q api.Point) []api.Point { m, _ := Move([]api.Point{p}, fraction(1, 1), 0, q); return m },
		func(p, q api.Point) []api.Point { m, _ := Move([]api.Point{p, p}, fraction(2, 1), 3, q); return m },
		func(p, q api.Point) []api.Point {
			m, _ := Move([]api.Point{p, q}, fraction(1, 1), 1, at(t, "0 0"))
			return m
		},
		func(p, q api.Point) []api.Point { m, _ := Move([]api.Point{q}, p.X, 1, p); return m },
		func(p, q api.Point) []api.Point { Verify([2]api.Point{p, q}, l, claims); return nil },
		func(p, q api.Point) []api.Point {
			for _, c := range claims {
				Holds([]api.Point{p, q}, c)
			}
			Holds([]api.Point{p, q}, api.PegClaim{Kind: api.ClaimNear, Pegs: []int{0, 1, 0}, Value: p.X, Bound: q.Y})
			return nil
		},
	}
	before := slices.Clone(l)
	for i, call := range calls {
		for _, c := range [][2]string{{"0 0", "1 0"}, {"1 2", "4 6"}, {"1/2 0", "1+r2 r3"}, {"r2 -1", "0 0"}, {"0 1", "r3 1"}, {"0 0", "0 1"}, {"3 0", "0 3"}} {
			want := pair(t, c[0], c[1])
			p, q := roomyPoint(want[0]), roomyPoint(want[1])
			got := numbersOfPoints(call(p, q))
			texts := tellAll(got)
			if !samePoint(p, want[0]) || !samePoint(q, want[1]) {
				t.Error("changed", i, c, p, q)
			}
			scribblePoint(p)
			scribblePoint(q)
			if !slices.Equal(tellAll(got), texts) {
				t.Error("shared with an argument", i, c, got, texts)
			}
			for k, x := range got {
				scribble(x)
				if !slices.Equal(tellAll(got[k+1:]), texts[k+1:]) {
					t.Error("shared with each other", i, c, got, texts)
				}
			}
		}
	}
	if !slices.Equal(l, before) || claims[0].Pegs[1] != 1 || told(claims[0].Value) != "5" || told(claims[1].Bound) != "7" || claims[2].More[2] != 0 {
		t.Error("changed", l, claims)
	}
}

// R4: what Read returns is new in each call.
func TestMemoryOfSteps(t *testing.T) {
	l, _, _ := Read("line 0 1\ncut 0 1 1\n")
	l[0].A = 7
	if m, _, _ := Read("line 0 1\ncut 0 1 1\n"); m[0].A != 0 {
		t.Error(m)
	}
	if s, e := Write(l); s != "line 7 1\ncut 0 1 1\n" || e != api.OK || l[0].A != 7 {
		t.Error(s, e)
	}
}
