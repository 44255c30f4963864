package peg

import (
	"slices"
	"testing"

	"chiti/api"
	"chiti/surd"
)

// P3.5: what becomes of points.
func TestMove(t *testing.T) {
	for _, c := range []struct {
		p, scale string
		quarters int
		to, want string
	}{
		{"1 2", "1", 0, "0 0", "1 2"},
		{"1 2", "1", 1, "0 0", "-2 1"},
		{"1 2", "1", 2, "0 0", "-1 -2"},
		{"1 2", "1", 3, "0 0", "2 -1"},
		{"0 0", "7", 3, "0 0", "0 0"},
		{"0 0", "7", 3, "5 -1/2", "5 -1/2"},
		{"1 2", "r2", 0, "5 -1/2", "5+r2 (-1+4r2)/2"},
		{"1 2", "3", 1, "10 10", "4 13"},
		{"1 2", "1/100000", 2, "0 0", "-1/100000 -1/50000"},
		{"r2 -1/3", "-1+r2", 1, "1 r3", "(2+r2)/3 2-r2+r3"},
		{"100000 -100000", "1", 1, "0 0", "100000 100000"},
		{"1 0", "100000", 1, "-1 0", "-1 100000"},
	} {
		l, e := Move(ats(t, c.p), num(t, c.scale), c.quarters, at(t, c.to))
		if len(l) != 1 || toldPoint(l[0]) != c.want || e != api.OK {
			t.Error(c, toldPoints(l), e)
		}
	}
	if l, e := Move(ats(t, "0 0", "1 0", "1 r2"), num(t, "2"), 1, at(t, "1 1")); toldPoints(l) != "1 1,1 3,1-2r2 3," || e != api.OK {
		t.Error(toldPoints(l), e)
	}
}

// P3.5: what Move refuses, and in which order.
func TestMoveErrors(t *testing.T) {
	for i, c := range []struct {
		l        []api.Point
		scale    string
		quarters int
		to       string
		e        api.Errno
	}{
		{nil, "1", 0, "0 0", api.OK},
		{make([]api.Point, 43), "no", -1, "no no", api.ErrLong},
		{make([]api.Point, 42), "1", 0, "0 0", api.ErrArg},
		{slices.Repeat(ats(t, "1 2"), 42), "1", 0, "0 0", api.OK},
		{slices.Repeat(ats(t, "1 2"), 43), "1", 0, "0 0", api.ErrLong},
		{ats(t, "1 2", "no 0"), "0", 4, "0 0", api.ErrArg},
		{ats(t, "1 2", "0 no"), "0", 4, "0 0", api.ErrArg},
		{nil, "no", 4, "0 0", api.ErrArg},
		{nil, "0", 4, "no 0", api.ErrArg},
		{nil, "0", 4, "0 no", api.ErrArg},
		{nil, "0", 0, "0 0", api.ErrRange},
		{nil, "-1", 0, "0 0", api.ErrRange},
		{nil, "1-r2", 0, "0 0", api.ErrRange},
		{nil, "(577-408r2)/408", 0, "0 0", api.OK},
		{nil, "(-577+408r2)/408", 0, "0 0", api.ErrRange},
		{nil, "1", -1, "0 0", api.ErrRange},
		{nil, "1", 4, "0 0", api.ErrRange},
		{nil, "1", 1 << 62, "0 0", api.ErrRange},
		{nil, "1", -1 << 63, "0 0", api.ErrRange},
		{nil, "1", 3, "0 0", api.OK},
		{ats(t, "100000 2"), "0", 0, "0 0", api.ErrRange},
		{ats(t, "100000 2"), "2", 0, "0 0", api.ErrOver},
		{ats(t, "2 100000"), "1", 0, "0 1", api.ErrOver},
		{ats(t, "2 100000"), "1", 0, "100000 0", api.ErrOver},
		{ats(t, "0 0", "1 0", "0 100000"), "2", 0, "0 0", api.ErrOver},
		// One point after another; X ahead of Y, but all products ahead of the sums, after the turn.
		{ats(t, "100000 0", "1+r2+r3 0"), "r5+2r6", 0, "0 0", api.ErrOver},
		{ats(t, "1+r2+r3 0", "100000 0"), "r5+2r6", 0, "0 0", api.ErrFull},
		{ats(t, "1+r2+r3 100000"), "r5+2r6", 0, "0 0", api.ErrFull},
		{ats(t, "100000 1+r2+r3"), "r5+2r6", 0, "0 0", api.ErrOver},
		{ats(t, "100000 1+r2+r3"), "r5+2r6", 1, "0 0", api.ErrFull},
		{ats(t, "1+r2+r3 100000"), "r5+2r6", 1, "0 0", api.ErrOver},
		{ats(t, "1+r2+r3 100000"), "r5+2r6", 2, "0 0", api.ErrFull},
		{ats(t, "1+r2+r3 100000"), "r5+2r6", 3, "0 0", api.ErrOver},
		{ats(t, "1+r2+r3 60000"), "2", 0, "r5+r6 0", api.ErrOver},
		{ats(t, "1+r2+r3 30000"), "2", 0, "r5+r6 60000", api.ErrFull},
		{ats(t, "30000 1+r2+r3"), "2", 0, "60000 r5+r6", api.ErrOver},
		// The sums of a point come ahead of the products of the next one.
		{ats(t, "1+r2+r3 0", "60000 0"), "2", 0, "r5+r6 0", api.ErrFull},
		{ats(t, "60000 0", "1+r2+r3 0"), "2", 0, "r5+r6 0", api.ErrOver},
	} {
		l, e := Move(c.l, num(t, c.scale), c.quarters, at(t, c.to))
		if e != c.e || e != api.OK && l != nil || e == api.OK && len(l) != len(c.l) {
			t.Error(i, toldPoints(l), e)
		}
	}
}

// movement is what Move does with points.
type movement struct {
	scale    api.Number
	quarters int
	to       api.Point
}

func (m movement) of(l ...api.Point) ([]api.Point, bool) {
	moved, e := Move(l, m.scale, m.quarters, m.to)
	return moved, e == api.OK
}

func movements(t *testing.T) []movement {
	t.Helper()
	return []movement{
		{num(t, "1"), 0, at(t, "2 -3")},
		{num(t, "1"), 1, at(t, "0 0")},
		{num(t, "2/3"), 2, at(t, "1/2 r2")},
		{num(t, "r2"), 3, at(t, "-1 4")},
		{num(t, "1+r2"), 1, at(t, "0 0")},
		{num(t, "5"), 2, at(t, "3 r3")},
	}
}

// P3.7: if the start is moved, so are all pegs.
func TestMovedConstructions(t *testing.T) {
	next := pseudo()
	count := 0
	kinds := map[api.PegKind]int{}
	for i := range 800 {
		start := [2]api.Point{somePoint(next, 1, 3), somePoint(next, 1+i%2, 3)}
		if samePoint(start[0], start[1]) {
			continue
		}
		l := construction(next, start, 14)
		pegs, _, _ := Run(start, l)
		for _, m := range movements(t) {
			moved, isMoved := m.of(start[:]...)
			want, isWanted := m.of(pegs...)
			if !isMoved || !isWanted {
				continue
			}
			// Only the other numbers may be too great now; what does not meet still does not.
			got, at, e := Run([2]api.Point(moved), l)
			if e != api.OK && e != api.ErrOver && e != api.ErrFull && e != api.ErrSurd {
				t.Error(start, l, m, at, e)
			}
			if e == api.OK {
				count++
				for _, s := range l {
					kinds[s.Kind]++
				}
				if !samePoints(got, want) {
					t.Error(start, l, m, toldPoints(got), toldPoints(want))
				}
			}
		}
	}
	for kind := api.PegLine; kind <= api.PegAlong; kind++ {
		if kinds[kind] < 100 {
			t.Error("only so many were tried:", kind, kinds[kind])
		}
	}
	if count < 1000 {
		t.Error("only so many were tried:", count)
	}
}

// P3.7: squares and areas are multiplied by the square of the scale; claims that name no number stay as they are.
func TestMovedClaims(t *testing.T) {
	next := pseudo()
	squares, areas, claims := 0, 0, 0
	for range 3000 {
		l := somePoints(next, 3+next(3), 1, 3)
		for _, m := range movements(t) {
			moved, ok := m.of(l...)
			square, e := surd.Mul(m.scale, m.scale)
			if !ok || e != api.OK {
				continue
			}
			x, e1 := Square(l[0], l[1])
			y, e2 := Square(moved[0], moved[1])
			isMultiple(t, &squares, square, x, y, e1, e2)
			x, e1 = Area(l)
			y, e2 = Area(moved)
			isMultiple(t, &areas, square, x, y, e1, e2)
			c := someClaim(next, len(l), 3)
			if c.Kind == api.ClaimArea || c.Kind == api.ClaimNear {
				continue
			}
			before, e1 := Holds(l, c)
			after, e2 := Holds(moved, c)
			if e1 == api.OK && e2 == api.OK {
				if before != after {
					t.Error(l, m, c, before, after)
				}
				if before {
					claims++
				}
			}
		}
	}
	if squares < 1000 || areas < 1000 || claims < 300 {
		t.Error("only so many were tried:", squares, areas, claims)
	}
}

// isMultiple counts those pairs of numbers of which none is refused, and wants the second one to be t times the first one.
func isMultiple(t *testing.T, count *int, by, x, y api.Number, e, f api.Errno) {
	t.Helper()
	if e != api.OK || f != api.OK {
		return
	}
	if z, e := surd.Mul(by, x); e == api.OK {
		*count++
		if !same(y, z) {
			t.Error(told(by), told(x), told(y))
		}
	}
}
