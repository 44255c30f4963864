package peg

import (
	"slices"
	"testing"

	"chiti/api"
	"chiti/surd"
)

// P3.2: squares of cords.
func TestSquare(t *testing.T) {
	for _, c := range []struct {
		p, q, want string
		e          api.Errno
	}{
		{"0 0", "0 0", "0", api.OK},
		{"r2 5/7", "r2 5/7", "0", api.OK},
		{"0 0", "3 4", "25", api.OK},
		{"3 4", "0 0", "25", api.OK},
		{"-1 2", "2 -2", "25", api.OK},
		{"1/2 r3/2", "1 0", "1", api.OK},
		{"r2 0", "0 r3", "5", api.OK},
		{"0 0", "1+r2 r3", "6+2r2", api.OK},
		{"0 0", "300 100", "100000", api.OK},
		{"no 0", "0 0", "", api.ErrArg},
		{"0 no", "0 0", "", api.ErrArg},
		{"0 0", "no 0", "", api.ErrArg},
		{"0 0", "0 no", "", api.ErrArg},
		{"0 0", "317 0", "", api.ErrOver},
		{"0 0", "1+r2+r3 1", "7+2r2+2r3+2r6", api.OK},
		{"0 0", "1+r2+r3 r5", "11+2r2+2r3+2r6", api.OK},
		{"0 0", "1+r2+r3 r5+r7", "", api.ErrFull},
		{"0 0", "1+r2+r3+r5 0", "", api.ErrFull},
		{"1+r2 0", "r3+r5+r6 0", "", api.ErrFull},
		{"100000 0", "-100000 0", "", api.ErrOver},
		// The difference of X comes ahead of that of Y, and both ahead of the products.
		{"1+r2 100000", "r3+r5+r6 -100000", "", api.ErrFull},
		{"100000 1+r2", "-100000 r3+r5+r6", "", api.ErrOver},
		{"0 1+r2", "1000 r3+r5+r6", "", api.ErrFull},
		{"0 0", "1+r2+r3+r5 1000", "", api.ErrFull},
		{"0 0", "1000 1+r2+r3+r5", "", api.ErrOver},
	} {
		if x, e := Square(at(t, c.p), at(t, c.q)); told(x) != c.want || e != c.e || e != api.OK && !isNone(x) {
			t.Error(c.p, c.q, told(x), e)
		}
	}
}

// P3.2: areas of polygons.
func TestArea(t *testing.T) {
	for _, c := range []struct {
		l    []string
		want string
	}{
		{nil, "0"},
		{[]string{"3 4"}, "0"},
		{[]string{"1 1", "5 7"}, "0"},
		{[]string{"0 0", "30 0", "27 36", "3 36"}, "972"},
		{[]string{"3 36", "27 36", "30 0", "0 0"}, "972"},
		{[]string{"0 0", "1 0", "1/2 r3/2"}, "r3/4"},
		{[]string{"0 0", "1/2 r3/2", "1 0"}, "r3/4"},
		{[]string{"1 1", "2 1", "2 2", "1 2"}, "1"},
		{[]string{"-1 -1", "1 -1", "1 1", "-1 1"}, "4"},
		{[]string{"0 0", "r2 0", "r2 r2", "0 r2"}, "2"},
		{[]string{"0 0", "1 1", "1 0", "0 1"}, "0"}, // crosses itself
		{[]string{"0 0", "4 0", "4 4", "2 1", "0 4"}, "10"},
		{[]string{"0 0", "1 0", "1 0", "1 1", "0 1", "0 0"}, "1"},
		{[]string{"0 0", "1 0", "2 0", "3 0"}, "0"},
		{[]string{"0 0", "1+r2 0", "1+r2 1", "0 1"}, "1+r2"},
		{[]string{"0 0", "1/3 0", "0 1/5"}, "1/30"},
		{slices.Repeat([]string{"0 0", "2 0", "2 3", "0 3"}, 5), "30"},
	} {
		if x, e := Area(ats(t, c.l...)); told(x) != c.want || e != api.OK {
			t.Error(c.l, told(x), e)
		}
	}
}

// P3.2: what Area refuses, and in which order.
func TestAreaErrors(t *testing.T) {
	invalid := make([]api.Point, api.MaxCorners+1)
	for i, c := range []struct {
		l []api.Point
		e api.Errno
	}{
		{invalid, api.ErrLong},
		{invalid[:api.MaxCorners], api.ErrArg},
		{slices.Repeat(ats(t, "0 0"), api.MaxCorners), api.OK},
		{slices.Repeat(ats(t, "0 0"), api.MaxCorners+1), api.ErrLong},
		{ats(t, "no 0"), api.ErrArg},
		{ats(t, "0 0", "1 0", "1 no"), api.ErrArg},
		{ats(t, "1000 1000", "1000 1000", "no 0"), api.ErrArg},
		// The crosses are computed also where there is no polygon.
		{ats(t, "1000 1000"), api.ErrOver},
		{ats(t, "1+r2+r3 r5+r6+r7"), api.ErrFull},
		{ats(t, "1000 0", "0 1000"), api.ErrOver},
		{ats(t, "1000 0"), api.OK},
		// The first cross with an error decides.
		{ats(t, "0 0", "1000 0", "0 1000", "1+r2+r3 0", "0 r5+r6+r7"), api.ErrOver},
		{ats(t, "0 0", "1+r2+r3 0", "0 r5+r6+r7", "1000 0", "0 1000"), api.ErrFull},
		// In a cross, X times Y of the next one comes ahead of Y times its X.
		{ats(t, "0 0", "1000 1+r2+r3", "r5+r6+r7 1000"), api.ErrOver},
		{ats(t, "0 0", "1+r2+r3 1000", "1000 r5+r6+r7"), api.ErrFull},
		// The sum of all so far comes ahead of the next cross.
		{ats(t, "0 0", "300 0", "0 300", "-300 0", "1+r2+r3 0", "0 r5+r6+r7"), api.ErrOver},
		{ats(t, "0 0", "r2 0", "0 1+r5", "r3 0", "0 r2", "1000 0", "0 1000"), api.ErrFull},
		// The whole is halved at last.
		{ats(t, "0 0", "1/300 0", "0 1/333"), api.ErrOver},
		{ats(t, "0 0", "1/300 0", "0 2/333"), api.OK},
		{ats(t, "0 0", "300 0", "300 300", "0 300"), api.ErrOver},
		{ats(t, "0 0", "200 0", "200 200", "0 200"), api.OK},
	} {
		if x, e := Area(c.l); e != c.e || e != api.OK && !isNone(x) {
			t.Error(i, told(x), e)
		}
	}
}

// P3.2: squares and areas, with numbers of all sizes, are computed as told, with the errors.
func TestAreasAsTold(t *testing.T) {
	next := pseudo()
	seen := map[api.Errno]int{}
	for i := range 20000 {
		size := []int{2, 5, 9, 30, 100, 1000, 100000}[i%7]
		l := somePoints(next, next(7), 1+i%3, size)
		var want api.Number
		wantError := caught(func() { want = areaOf(l...) })
		x, e := Area(l)
		if !same(x, want) || e != wantError {
			t.Error(l, told(x), e)
		}
		seen[e]++
		if len(l) < 2 {
			continue
		}
		want = api.Number{}
		wantError = caught(func() { want = squareOf(l[0], l[1]) })
		x, e = Square(l[0], l[1])
		if !same(x, want) || e != wantError {
			t.Error(l[0], l[1], told(x), e)
		}
		if y, f := Square(l[1], l[0]); !same(x, y) || e != f {
			t.Error(l[0], l[1], told(x), e, told(y), f)
		}
	}
	if seen[api.OK] < 1000 || seen[api.ErrOver] < 1000 || seen[api.ErrFull] < 1000 {
		t.Error("only so many were tried:", seen)
	}
}

// agree counts those pairs of areas of which none is refused, and wants them to be the same.
func agree(t *testing.T, count *int, what string, l, m []api.Point) {
	t.Helper()
	x, e := Area(l)
	y, f := Area(m)
	if e == api.OK && f == api.OK {
		*count++
		if !same(x, y) {
			t.Error(what, l, m, told(x), told(y))
		}
	}
}

// P3.9: the area is the same from whichever corner on, and in both directions.
func TestAreaLaws(t *testing.T) {
	next := pseudo()
	count := 0
	for range 500 {
		l := somePoints(next, next(9), 2, 6)
		backwards := slices.Clone(l)
		slices.Reverse(backwards)
		agree(t, &count, "backwards", l, backwards)
		for i := range l {
			agree(t, &count, "from another corner on", l, slices.Concat(l[i:], l[:i]))
			agree(t, &count, "a corner twice", l, slices.Insert(slices.Clone(l), i, l[i]))
		}
	}
	if count < 1000 {
		t.Error("only so many were tried:", count)
	}
}

// turns returns 1 if the direction of a polygon is to the left, -1 if it is to the right, and 0 if its area is 0.
func turns(l []api.Point) int {
	total := float(0)
	for i := range l {
		total = add(total, vectorOf(l[i]).cross(vectorOf(l[(i+1)%len(l)])))
	}
	if near(total, float(0)) {
		return 0
	}
	return total.Sign()
}

// P3.9: a cord cuts a polygon into two, whose areas add up, with the signs of their directions.
func TestCutPolygons(t *testing.T) {
	next := pseudo()
	count := 0
	signed := func(l []api.Point) (api.Number, bool) {
		x, e := Area(l)
		if e != api.OK {
			return x, false
		}
		y, e := surd.Mul(x, fraction(turns(l), 1))
		return y, e == api.OK
	}
	for range 500 {
		l := somePoints(next, 3+next(6), 2, 6)
		i := next(len(l))
		k := i + next(len(l)-i)
		whole, isWhole := signed(l)
		inner, isInner := signed(l[i : k+1])
		outer, isOuter := signed(slices.Concat(l[:i+1], l[k:]))
		sum, e := surd.Add(inner, outer)
		if isWhole && isInner && isOuter && e == api.OK {
			count++
			if !same(sum, whole) {
				t.Error(l, i, k, told(whole), told(inner), told(outer))
			}
		}
	}
	if count < 200 {
		t.Error("only so many were tried:", count)
	}
}
