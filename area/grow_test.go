package area_test

import (
	"math"
	"slices"
	"testing"

	"chiti/api"
	"chiti/area"
)

// P4.5: areas of years.
func TestGrow(t *testing.T) {
	for _, c := range []struct {
		first, by string
		year      int
		want      string
	}{
		{"15/2", "1", 0, "15/2"},
		{"15/2", "1", 1, "17/2"},
		{"15/2", "1", 94, "203/2"},
		{"1", "1", 1000, "1001"},
		{"r2", "0", 1000, "r2"},
		{"1", "r2/1000", 1000, "1+r2"},
		{"1/3", "1/6", 4, "1"},
		{"3-2r2", "-1+r2", 2, "1"},
		{"-1+r2", "1+r3", 10, "9+r2+10r3"},
	} {
		x, e := area.Grow(num(t, c.first), num(t, c.by), c.year)
		if told(x) != c.want || e != api.OK {
			t.Error(c, told(x), e)
		}
	}
}

// P4.5: how lengths grow from year to year.
func TestFactor(t *testing.T) {
	for _, c := range []struct {
		first, by string
		from, to  int
		want      string
	}{
		{"15/2", "1", 0, 1, "r255/15"},
		{"15/2", "1", 1, 0, "r255/17"},
		{"15/2", "1", 1, 1, "1"},
		{"4", "5/2", 0, 2, "3/2"},
		{"4", "5/2", 2, 0, "2/3"},
		{"1", "1", 0, 3, "2"},
		{"1", "1", 0, 1, "r2"},
		{"1", "1", 1000, 1000, "1"},
		{"2", "2", 1, 999, "10r5"},
		{"r2", "0", 5, 1000, "1"},
		{"1+r2", "2+2r2", 0, 4, "3"},
		{"1", "2+2r2", 0, 1, "1+r2"},
		{"1", "2+2r2", 1, 0, "-1+r2"},
	} {
		x, e := area.Factor(num(t, c.first), num(t, c.by), c.from, c.to)
		if told(x) != c.want || e != api.OK {
			t.Error(c, told(x), e)
		}
	}
}

// P4.5: what is refused, and in which order.
func TestGrowErrors(t *testing.T) {
	for _, c := range []struct {
		first, by    string
		from, to     int
		grow, factor api.Errno
	}{
		{"no", "1", 0, 0, api.ErrArg, api.ErrArg},
		{"1", "no", 0, 0, api.ErrArg, api.ErrArg},
		{"no", "-1", -1, -1, api.ErrArg, api.ErrArg},
		{"0", "no", 1001, 1001, api.ErrArg, api.ErrArg},
		{"", "1", 0, 0, api.ErrArg, api.ErrArg},
		{"1", "", 0, 0, api.ErrArg, api.ErrArg},
		{"0", "1", 0, 0, api.ErrRange, api.ErrRange},
		{"0", "1", 1, 1, api.ErrRange, api.ErrRange},
		{"-1", "1", 2, 2, api.ErrRange, api.ErrRange},
		{"1-r2", "1", 2, 2, api.ErrRange, api.ErrRange},
		{"1", "-1", 0, 0, api.ErrRange, api.ErrRange},
		{"5", "1-r2", 0, 0, api.ErrRange, api.ErrRange},
		{"1", "1", -1, 0, api.ErrRange, api.ErrRange},
		{"1", "1", 1001, 0, api.ErrRange, api.ErrRange},
		{"1", "1", math.MaxInt, 0, api.ErrRange, api.ErrRange},
		{"1", "1", math.MinInt, 0, api.ErrRange, api.ErrRange},
		{"1", "1", 0, -1, api.OK, api.ErrRange},
		{"1", "1", 0, 1001, api.OK, api.ErrRange},
		{"1", "1", 0, math.MaxInt, api.OK, api.ErrRange},
		{"1", "1", 0, math.MinInt, api.OK, api.ErrRange},
		// Years are looked at ahead of areas.
		{"1", "1000", 1000, 1001, api.ErrOver, api.ErrRange},
		{"1", "1000", 1000, 0, api.ErrOver, api.ErrOver},
		{"1", "1000", 0, 1000, api.OK, api.ErrOver},
		{"1", "101", 1000, 0, api.ErrOver, api.ErrOver},
		{"100000", "1", 1, 0, api.ErrOver, api.ErrOver},
		{"1/400", "1/399", 1, 0, api.ErrOver, api.ErrOver},
		{"1+r2+r3", "r5+r7", 1, 0, api.ErrFull, api.ErrFull},
		{"1+r2+r3", "r5+r7", 0, 0, api.OK, api.ErrSurd},
		// The product comes ahead of the sum.
		{"1+r2+r3", "101r5+101r7", 1000, 0, api.ErrOver, api.ErrOver},
		// The area in the first year comes ahead of the other one, and both ahead of the quotient.
		{"1+r2+r3", "101r5+101r7", 1, 1000, api.ErrFull, api.ErrFull},
		{"1+r2+r3", "101r5+101r7", 1000, 1, api.ErrOver, api.ErrOver},
		{"1+r2+r3", "r5+r7", 0, 1, api.OK, api.ErrFull},
		{"1+r2+r3", "1000", 0, 1000, api.OK, api.ErrOver},
		{"1+r2+r3", "1", 0, 1, api.OK, api.ErrSurd},
		{"r2", "r3+r5", 0, 1, api.OK, api.ErrSurd},
		{"1", "r2+r3", 1, 0, api.OK, api.ErrSurd},
		{"1", "r2+r3", 0, 1, api.OK, api.ErrSurd},
		{"1+r2", "r3+r5", 0, 1, api.OK, api.ErrFull},
		// The root.
		{"1", "r2", 0, 1, api.OK, api.ErrSurd},
		{"1", "1", 0, 1000, api.OK, api.ErrOver},
		{"1", "1", 0, 996, api.OK, api.OK},
	} {
		first, by := num(t, c.first), num(t, c.by)
		if x, e := area.Grow(first, by, c.from); e != c.grow || e != api.OK && !isZero(x) {
			t.Error(c, x, e)
		}
		if x, e := area.Factor(first, by, c.from, c.to); e != c.factor || e != api.OK && !isZero(x) {
			t.Error(c, x, e)
		}
	}
}

// P4.6: scaled plots.
func TestScale(t *testing.T) {
	for _, c := range []struct{ plot, factor, want string }{
		{"square 1", "1", "square 1"},
		{"square 3/2", "2/3", "square 1"},
		{"oblong 2 r3", "r3", "oblong 2r3 3"},
		{"triangle 1 1/2", "1+r2", "triangle 1+r2 (1+r2)/2"},
		{"rhomb r2 2", "r2/2", "rhomb 1 r2"},
		{"trapezium 1 2 r2", "r2", "trapezium r2 2r2 2"},
		{"trapezium 24 30 36", "1/6", "trapezium 4 5 6"},
		{"square 100000", "1/100000", "square 1"},
	} {
		p, e := area.Scale(plot(t, c.plot), num(t, c.factor))
		if toldPlot(p) != c.want || e != api.OK {
			t.Error(c, toldPlot(p), e)
		}
	}
}

// P4.6: what Scale refuses, and in which order.
func TestScaleErrors(t *testing.T) {
	for _, c := range []struct {
		plot, factor string
		e            api.Errno
	}{
		{"square", "1", api.ErrArg},
		{"square 0", "0", api.ErrArg},
		{"square 1 1", "0", api.ErrArg},
		{"nothing", "0", api.ErrArg},
		{"square 1", "no", api.ErrArg},
		{"square 1", "", api.ErrArg},
		{"square 1", "0", api.ErrRange},
		{"square 1", "-1", api.ErrRange},
		{"square 1", "1-r2", api.ErrRange},
		{"square 1000", "0", api.ErrRange},
		{"square 1000", "1000", api.ErrOver},
		{"square 1+r2+r3", "1+r5", api.ErrFull},
		{"oblong 1 1000", "1000", api.ErrOver},
		{"oblong 100000 1+r2+r3", "2+r5", api.ErrOver},
		{"oblong 1+r2+r3 100000", "2+r5", api.ErrFull},
		{"triangle 100000 1+r2+r3", "2+r5", api.ErrOver},
		{"rhomb 1+r2+r3 100000", "2+r5", api.ErrFull},
		{"trapezium 1 100000 1+r2+r3", "2+r5", api.ErrOver},
		{"trapezium 1 1+r2+r3 100000", "2+r5", api.ErrFull},
		{"trapezium 1 1 1+r2+r3", "2+r5", api.ErrFull},
	} {
		p, e := area.Scale(plot(t, c.plot), num(t, c.factor))
		if !isZeroPlot(p) || e != c.e {
			t.Error(c, toldPlot(p), e)
		}
	}
}

// P4.6: scaled plans.
func TestScalePlan(t *testing.T) {
	if l, e := area.ScalePlan(plan(t, "0 1", "-1/2 r2", "-r2 -3"), num(t, "r2")); toldPlan(l) != "0 r2,-r2/2 2,-2 -3r2," || e != api.OK {
		t.Error(toldPlan(l), e)
	}
	if l, e := area.ScalePlan(nil, num(t, "r2")); len(l) != 0 || e != api.OK {
		t.Error(toldPlan(l), e)
	}
	many := slices.Repeat(plan(t, "1 2"), 20)
	many[19] = plan(t, "3 -4")[0]
	if l, e := area.ScalePlan(many, num(t, "1/2")); len(l) != 20 || toldPlan(l[18:]) != "1/2 1,3/2 -2," || e != api.OK {
		t.Error(toldPlan(l), e)
	}
}

// P4.6: what ScalePlan refuses, and in which order.
func TestScalePlanErrors(t *testing.T) {
	for i, c := range []struct {
		l      []api.Point
		factor string
		e      api.Errno
	}{
		{slices.Repeat(plan(t, "1 2"), 21), "1", api.ErrLong},
		{make([]api.Point, 21), "no", api.ErrLong},
		{make([]api.Point, 21), "0", api.ErrLong},
		{make([]api.Point, 20), "0", api.ErrArg},
		{plan(t, "1 no"), "0", api.ErrArg},
		{plan(t, "0 1", "no 1"), "0", api.ErrArg},
		{plan(t, "1000 1", "no 1"), "1000", api.ErrArg},
		{plan(t, "1 2"), "no", api.ErrArg},
		{nil, "no", api.ErrArg},
		{nil, "", api.ErrArg},
		{nil, "0", api.ErrRange},
		{nil, "-1", api.ErrRange},
		{plan(t, "1000 1000"), "1-r2", api.ErrRange},
		{plan(t, "1000 1"), "1000", api.ErrOver},
		{plan(t, "1 1000"), "1000", api.ErrOver},
		{plan(t, "1 1", "0 -1000"), "1000", api.ErrOver},
		{plan(t, "100000 1+r2+r3"), "2+r5", api.ErrOver},
		{plan(t, "1+r2+r3 100000"), "2+r5", api.ErrFull},
		{plan(t, "0 100000", "1+r2+r3 0"), "2+r5", api.ErrOver},
		{plan(t, "0 1+r2+r3", "100000 0"), "2+r5", api.ErrFull},
	} {
		if l, e := area.ScalePlan(c.l, num(t, c.factor)); len(l) != 0 || e != c.e {
			t.Error(i, toldPlan(l), e)
		}
	}
}

// P4.7: areas of plans.
func TestPlanArea(t *testing.T) {
	for _, c := range []struct {
		points []string
		want   string
	}{
		{[]string{"0 0", "4 0", "4 3"}, "6"},
		{[]string{"0 0", "4 3", "4 0"}, "6"},
		{[]string{"4 3", "0 0", "4 0"}, "6"},
		{[]string{"1 1", "3 1", "3 3", "1 3"}, "4"},
		{[]string{"-1 -1", "1 -1", "1 1", "-1 1"}, "4"},
		{[]string{"0 0", "2 2", "2 0", "0 2"}, "0"},
		{[]string{"0 0", "1 1", "2 2"}, "0"},
		{[]string{"5 7", "5 7", "5 7"}, "0"},
		{[]string{"0 0", "r2 0", "0 r3"}, "r6/2"},
		{[]string{"0 0", "1 0", "1/2 r3/2"}, "r3/4"},
		{[]string{"0 0", "1 0", "0 1/50000"}, "1/100000"},
		{[]string{"0 0", "3 0", "3 1", "1 1", "1 3", "0 3"}, "5"},
		{[]string{"0 0", "3 0", "3 1", "1 1", "1 3", "0 3", "0 0"}, "5"},
		{[]string{"12 0", "-12 15", "-12 -15"}, "360"},
		{[]string{"1+r2 0", "0 1+r2", "-1-r2 0", "0 -1-r2"}, "6+4r2"},
	} {
		x, e := area.PlanArea(plan(t, c.points...))
		if told(x) != c.want || e != api.OK {
			t.Error(c, told(x), e)
		}
	}
	var bow []api.Point
	for i := range 20 {
		bow = append(bow, api.Point{X: integer(i), Y: integer(i * i)})
	}
	if x, e := area.PlanArea(bow); told(x) != "1140" || e != api.OK {
		t.Error(told(x), e)
	}
}

// P4.7: what PlanArea refuses, and in which order.
func TestPlanAreaErrors(t *testing.T) {
	for i, c := range []struct {
		l []api.Point
		e api.Errno
	}{
		{slices.Repeat(plan(t, "1 2"), 21), api.ErrLong},
		{make([]api.Point, 21), api.ErrLong},
		{make([]api.Point, 20), api.ErrArg},
		{make([]api.Point, 1), api.ErrArg},
		{plan(t, "0 0", "1 no"), api.ErrArg},
		{plan(t, "no 0"), api.ErrArg},
		{plan(t, "0 0", "1000 0", "1000 1000", "0 no"), api.ErrArg},
		{nil, api.ErrForm},
		{plan(t, "0 0"), api.ErrForm},
		{plan(t, "0 0", "1 1"), api.ErrForm},
		{plan(t, "1000 0", "0 1000"), api.ErrForm},
		{plan(t, "0 0", "1000 0", "0 1000"), api.ErrOver},
		// Both products are small enough, but not their difference; or it is, but not the sum.
		{plan(t, "300 300", "-300 300", "0 0"), api.ErrOver},
		{plan(t, "300 0", "0 300", "-300 0", "0 -300"), api.ErrOver},
		// The sum is too great on the way, and would not be so at last.
		{plan(t, "300 0", "0 300", "-300 0", "300 0", "-300 0", "0 300"), api.ErrOver},
		{plan(t, "0 0", "1 0", "0 1/99999"), api.ErrOver},
		{plan(t, "0 0", "1+r2+r3 0", "0 1+r5"), api.ErrFull},
		{plan(t, "0 0", "1+r2+r3 r5+r7", "1 -1"), api.ErrFull},
		// One side after another; on a side, one product ahead of the other one.
		{plan(t, "1000 0", "0 1000", "1+r2+r3 0", "0 1+r5"), api.ErrOver},
		{plan(t, "1+r2+r3 0", "0 1+r5", "1000 0", "0 1000"), api.ErrFull},
		{plan(t, "1000 1+r2+r3", "1+r5 1000", "0 0"), api.ErrOver},
		{plan(t, "1+r2+r3 1000", "1000 1+r5", "0 0"), api.ErrFull},
		// The last side leads back to the first point.
		{plan(t, "1000 0", "1 0", "0 1000"), api.ErrOver},
		{plan(t, "0 1+r2+r3", "0 1", "1+r5 0"), api.ErrFull},
	} {
		if x, e := area.PlanArea(c.l); !isZero(x) || e != c.e {
			t.Error(i, told(x), e)
		}
	}
}
