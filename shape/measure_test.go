package shape_test

import (
	"testing"

	"chiti/api"
	"chiti/brick"
	"chiti/shape"
	"chiti/surd"
)

// P6.4: areas, borders and centers, as texts of numbers.
func TestMeasures(t *testing.T) {
	for _, c := range []struct{ s, area, around, x, y string }{
		{"1", "1/4", "1+r2", "1/2", "5/6"},
		{"2", "1/4", "1+r2", "5/6", "1/2"},
		{"4", "1/4", "1+r2", "1/2", "1/6"},
		{"8", "1/4", "1+r2", "1/6", "1/2"},
		{"3", "1/2", "2+r2", "2/3", "2/3"},
		{"6", "1/2", "2+r2", "2/3", "1/3"},
		{"c", "1/2", "2+r2", "1/3", "1/3"},
		{"9", "1/2", "2+r2", "1/3", "2/3"},
		{"5", "1/2", "2+2r2", "1/2", "1/2"},
		{"7", "3/4", "3+r2", "11/18", "1/2"},
		{"f", "1", "4", "1/2", "1/2"},
		{"ff", "2", "6", "1", "1/2"},
		{"6c", "1", "2+2r2", "1", "1/3"},
		{"6c/39", "2", "4r2", "1", "1"},
		{"f0/ff", "3", "8", "5/6", "5/6"},
		{"28", "1/2", "2r2", "1", "1/2"},
		{"f0/0f", "2", "8", "1", "1"},
		{"10/02", "1/2", "2+2r2", "7/6", "7/6"},
		{"fff/f0f/fff", "8", "16", "3/2", "3/2"},
		{"fff/f5f/fff", "17/2", "14+2r2", "3/2", "3/2"},
		{"3ff/03f/003", "9/2", "6+3r2", "2", "2"},
	} {
		s := ofText(t, c.s)
		if x, e := shape.Area(s); textOf(x) != c.area || e != api.OK {
			t.Error("Area", c.s, textOf(x), e)
		}
		if x, e := shape.Around(s); textOf(x) != c.around || e != api.OK {
			t.Error("Around", c.s, textOf(x), e)
		}
		if p, e := shape.Center(s); textOf(p.X) != c.x || textOf(p.Y) != c.y || e != api.OK {
			t.Error("Center", c.s, textOf(p.X), textOf(p.Y), e)
		}
	}
}

// P6.4: the center is where the shape is, the rest does not depend on this; the greatest shapes have measures, too.
func TestMeasuresElsewhere(t *testing.T) {
	for _, c := range []struct {
		s                  []api.Quarter
		area, around, x, y string
	}{
		{[]api.Quarter{quarter(15, 15, 0)}, "1/4", "1+r2", "31/2", "95/6"},
		{[]api.Quarter{quarter(15, 0, 1)}, "1/4", "1+r2", "95/6", "1/2"},
		{[]api.Quarter{quarter(0, 0, 2), quarter(15, 15, 0)}, "1/2", "2+2r2", "8", "8"},
		{built(t, added(3, 4, 2, 1)), "2", "6", "4", "9/2"},
		{built(t, added(6, 6, 10, 10)), "100", "40", "11", "11"},
		{full(400), "100", "46", "194/25", "157/50"},
		{full(399), "399/4", "47+r2", "", ""},
		{chequered(), "75", "300", "", ""},
	} {
		area, e := shape.Area(c.s)
		around, f := shape.Around(c.s)
		p, g := shape.Center(c.s)
		center := modelCenter(c.s)
		if c.x == "" {
			c.x, c.y = center[0], center[1]
		}
		if textOf(area) != c.area || textOf(around) != c.around || textOf(p.X) != c.x || textOf(p.Y) != c.y || e != api.OK || f != api.OK || g != api.OK {
			t.Error(len(c.s), textOf(area), textOf(around), textOf(p.X), textOf(p.Y), center, e, f, g)
		}
	}
}

// chequered returns each second cell of the lower rows.
func chequered() []api.Quarter {
	var s []api.Quarter
	for _, q := range full(600) {
		if (q.X+q.Y)%2 == 0 {
			s = append(s, q)
		}
	}
	return s
}

// P6.4: measures are what is counted of triangles in the plane.
func TestMeasuresLikeModel(t *testing.T) {
	next := pseudo()
	for i := range 2000 {
		s := someShape(next, 1+i%16)
		area, e := shape.Area(s)
		if four, _ := surd.Mul(area, number(t, "4")); !same(four, api.Number{Den: 1, Terms: []api.Term{{Coef: len(s), Root: 1}}}) || e != api.OK {
			t.Error("Area", s, area, e)
		}
		if x, e := shape.Around(s); textOf(x) != modelAround(s) || e != api.OK {
			t.Error("Around", s, textOf(x), modelAround(s), e)
		}
		if p, e := shape.Center(s); [2]string{textOf(p.X), textOf(p.Y)} != modelCenter(s) || e != api.OK {
			t.Error("Center", s, textOf(p.X), textOf(p.Y), modelCenter(s), e)
		}
	}
}

// P6.5: units, and their errors in order.
func TestUnit(t *testing.T) {
	for _, c := range []struct {
		s, area, want string
		e             api.Errno
	}{
		{"ff/ff", "15/2", "r30/4", api.OK},
		{"f", "1", "1", api.OK},
		{"f", "2", "r2", api.OK},
		{"1", "1", "2", api.OK},
		{"1", "1/4", "1", api.OK},
		{"3", "1", "r2", api.OK},
		{"7", "1", "2r3/3", api.OK},
		{"7", "3/4", "1", api.OK},
		{"fff/f0f/fff", "8", "1", api.OK},
		{"fff/f0f/fff", "1", "r2/4", api.OK},
		{"f", "1/100000", "r10/1000", api.OK},
		{"f", "25000", "50r10", api.OK},
		{"1", "25000", "100r10", api.OK},
		{"f", "3+2r2", "1+r2", api.OK},
		{"f", "3-2r2", "-1+r2", api.OK},
		{"ff", "10+4r6", "r2+r3", api.OK},
		{"1", "(3+2r2)/4", "1+r2", api.OK},
		{"f", "0", "", api.ErrRange},
		{"f", "-1", "", api.ErrRange},
		{"f", "-1/100000", "", api.ErrRange},
		{"f", "-3+2r2", "", api.ErrRange},
		{"f", "1-r2", "", api.ErrRange},
		{"f", "-100000-r2-r3-r5", "", api.ErrRange},
		{"f", "r2", "", api.ErrSurd},
		{"f", "1+r2", "", api.ErrSurd},
		{"f", "r2+r3", "", api.ErrSurd},
		{"f", "1+r2+r3+r5", "", api.ErrSurd},
		{"fff", "997", "", api.ErrOver},
		{"f", "25001", "", api.ErrOver},
		{"f", "100000", "", api.ErrOver},
		{"f", "25001r2", "", api.ErrOver},
		{"fff", "1/99999", "", api.ErrOver},
		{"fff", "(1+r2)/99999", "", api.ErrOver},
		{"f", "1009", "", api.ErrOver},
		{"1", "991/997", "", api.ErrOver},
	} {
		u, e := shape.Unit(ofText(t, c.s), number(t, c.area))
		if textOf(u) != c.want || e != c.e || e != api.OK && !same(u, api.Number{}) {
			t.Error(c.s, c.area, u, e)
		}
	}
	for _, area := range []api.Number{{}, {Den: -1}, {Den: 2}, {Den: 1, Terms: []api.Term{{Coef: -1, Root: 4}}}, {Den: 1, Terms: []api.Term{{Coef: 100001, Root: 1}}}, {Den: 2, Terms: []api.Term{{Coef: 2, Root: 1}}}, {Den: 1, Terms: make([]api.Term, 5)}} {
		if u, e := shape.Unit(full(4), area); !same(u, api.Number{}) || e != api.ErrArg {
			t.Error(area, u, e)
		}
	}
	// Of a list that is no shape this is told first.
	for _, area := range []api.Number{{}, number(t, "0"), number(t, "-1"), number(t, "1+r2"), number(t, "100000")} {
		if u, e := shape.Unit(full(401), area); !same(u, api.Number{}) || e != api.ErrLong {
			t.Error("too long", area, u, e)
		}
		if u, e := shape.Unit(nil, area); !same(u, api.Number{}) || e != api.ErrArg {
			t.Error("no shape", area, u, e)
		}
	}
}

// P6.5: the error of the first call with one is that of Unit.
func TestUnitSteps(t *testing.T) {
	next := pseudo()
	seen := map[api.Errno]int{}
	for i := range 4000 {
		s := full(1 + next(400))
		parts := []api.Term{{Coef: 1 + next(100+10000*(i%4)), Root: 1}}
		if i%3 == 0 {
			parts = append(parts, api.Term{Coef: next(99) - 49, Root: 1 + next(7)})
		}
		area, e := surd.Make(1+next(100), parts)
		if e != api.OK {
			t.Fatal(parts, e)
		}
		want, f := unitByCalls(area, len(s))
		u, e := shape.Unit(s, area)
		if !same(u, want) || e != f {
			t.Error(len(s), textOf(area), u, e, want, f)
		}
		seen[e]++
	}
	for _, e := range []api.Errno{api.OK, api.ErrRange, api.ErrSurd, api.ErrOver} {
		if seen[e] < 30 {
			t.Error("seldom tried", e, seen[e])
		}
	}
}

func unitByCalls(area api.Number, count int) (api.Number, api.Errno) {
	if n, _ := surd.Compare(area, api.Number{Den: 1}); n <= 0 {
		return api.Number{}, api.ErrRange
	}
	x, e := surd.Mul(area, api.Number{Den: 1, Terms: []api.Term{{Coef: 4, Root: 1}}})
	if e != api.OK {
		return api.Number{}, e
	}
	x, e = surd.Quo(x, api.Number{Den: 1, Terms: []api.Term{{Coef: count, Root: 1}}})
	if e != api.OK {
		return api.Number{}, e
	}
	return surd.Root(x)
}

// P6.12: with cells of this side, the area is the one that was asked for.
func TestUnitLaw(t *testing.T) {
	next := pseudo()
	tried := 0
	for i := range 3000 {
		s := someShape(next, 1+i%6)
		wanted, _ := surd.Make(1+next(4), []api.Term{{Coef: 1 + next(40), Root: 1}})
		if i%4 == 0 {
			// So many times a square has a root, also if it is no fraction.
			side, _ := surd.Make(1+next(3), []api.Term{{Coef: 1 + next(4), Root: 1}, {Coef: 1 + next(3), Root: 2 + next(2)}})
			square, _ := surd.Mul(side, side)
			area, _ := shape.Area(s)
			wanted, _ = surd.Mul(square, area)
		}
		u, e := shape.Unit(s, wanted)
		if e != api.OK {
			continue
		}
		tried++
		area, _ := shape.Area(s)
		square, f := surd.Mul(u, u)
		whole, g := surd.Mul(area, square)
		if f == api.OK && g == api.OK && !same(whole, wanted) {
			t.Error(s, textOf(wanted), textOf(u), textOf(whole))
		}
		if sign, _ := surd.Sign(u); sign != 1 {
			t.Error("not above 0", textOf(u))
		}
	}
	if tried < 1000 {
		t.Error("only so many were tried:", tried)
	}
}

// P6.11: a shape and its images have the same area, border, and as many symmetries and holes.
func TestImagesMeasured(t *testing.T) {
	next := pseudo()
	for i := range 300 {
		s := someShape(next, 1+i%8)
		images, e := brick.Images(s)
		if e != api.OK {
			t.Fatal(s, e)
		}
		first := measured(s)
		for _, image := range images {
			if m := measured(image); m != first {
				t.Error(s, image, first, m)
			}
		}
		if first.symmetries == 0 || 8%first.symmetries != 0 || first.symmetries*len(images) != 8 {
			t.Error(s, first.symmetries, len(images))
		}
	}
}

type measures struct {
	area, around      string
	symmetries, holes int
}

func measured(s []api.Quarter) measures {
	area, _ := shape.Area(s)
	around, _ := shape.Around(s)
	symmetries, _ := shape.Symmetries(s)
	holes, _ := shape.Holes(s)
	return measures{textOf(area), textOf(around), len(symmetries), len(holes)}
}

// P6.11: enlarged it has so many times the measures.
func TestEnlargedMeasured(t *testing.T) {
	next := pseudo()
	tried, moreSymmetries := map[int]int{}, 0
	for i := range 2500 {
		times := 1 + i%4
		s := someShape(next, 1+next(16/times))
		// Half of them are regular ones, which have more symmetries.
		if i%8 < 4 {
			s = regular(s)
		}
		large, e := shape.Enlarge(s, times)
		if e != api.OK {
			continue
		}
		tried[times]++
		norm, _ := brick.Norm(s)
		before, after := measured(s), measured(large)
		wanted := measures{scaled(t, before.area, times*times), scaled(t, before.around, times), after.symmetries, before.holes}
		if after != wanted || after.symmetries%before.symmetries != 0 || times%2 == 1 && after.symmetries != before.symmetries {
			t.Error(s, times, before, after)
		}
		if after.symmetries > before.symmetries {
			moreSymmetries++
		}
		near, _ := shape.Center(norm)
		far, _ := shape.Center(large)
		if textOf(far.X) != scaled(t, textOf(near.X), times) || textOf(far.Y) != scaled(t, textOf(near.Y), times) {
			t.Error(s, times, near, far)
		}
	}
	for times := 1; times <= 4; times++ {
		if tried[times] < 200 {
			t.Error("only so many were tried:", times, tried[times])
		}
	}
	if moreSymmetries == 0 {
		t.Error("none became more symmetrical")
	}
}

// regular returns a small shape with half of its turned places beside it.
func regular(s []api.Quarter) []api.Quarter {
	g := modelGround{}
	for _, q := range s[:min(len(s), 6)] {
		x, y := q.X%3, q.Y%3
		g[quarter(x, y, q.Side)] = true
		g[quarter(4-x, 4-y, (q.Side+2)%4)] = true
	}
	return g.list()
}

func scaled(t *testing.T, text string, times int) string {
	t.Helper()
	x, e := surd.Mul(number(t, text), api.Number{Den: 1, Terms: []api.Term{{Coef: times, Root: 1}}})
	if e != api.OK {
		t.Fatal(text, times, e)
	}
	return textOf(x)
}
