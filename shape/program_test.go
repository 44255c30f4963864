package shape_test

import (
	"math"
	"slices"
	"strings"
	"testing"

	"chiti/api"
	"chiti/brick"
	"chiti/shape"
)

// field is a number of a step, and from where to where it may be; unused ones are 0.
type field struct {
	of        func(s *api.GroundStep) *int
	low, high int
}

// fieldsOf returns the numbers of a step of a kind.
func fieldsOf(kind api.GroundKind) []field {
	const column, turns = 15, 3
	var none, length = [2]int{0, 0}, [2]int{1, 16}
	var x, y, side, placeX, placeY, placeTurns int
	w, h := none, none
	switch kind {
	case api.GroundAdd, api.GroundCut:
		x, y, w, h = column, column, length, length
	case api.GroundCorner, api.GroundClip:
		x, y, w, side = column, column, length, 3
	case api.GroundBrick:
		placeX, placeY, placeTurns = column, column, turns
	case api.GroundMirror, api.GroundTurn:
		x = 30
	}
	return []field{
		{func(s *api.GroundStep) *int { return &s.X }, 0, x},
		{func(s *api.GroundStep) *int { return &s.Y }, 0, y},
		{func(s *api.GroundStep) *int { return &s.W }, w[0], w[1]},
		{func(s *api.GroundStep) *int { return &s.H }, h[0], h[1]},
		{func(s *api.GroundStep) *int { return &s.Side }, 0, side},
		{func(s *api.GroundStep) *int { return &s.Place.X }, 0, placeX},
		{func(s *api.GroundStep) *int { return &s.Place.Y }, 0, placeY},
		{func(s *api.GroundStep) *int { return &s.Place.Turns }, 0, placeTurns},
	}
}

func oneOfEach() []api.GroundStep {
	return program(added(3, 4, 5, 6), cut(3, 4, 5, 6), corner(3, 4, 5, 2), clip(3, 4, 5, 1), laid("half", 3, 4, 2), laidReflected("bent", 3, 4, 1), mirror(20), turn(20))
}

// P6.1: each number of a step of each kind has its range, or is 0.
func TestCheckNumbers(t *testing.T) {
	good := added(0, 0, 1, 1)
	for _, s := range oneOfEach() {
		for i, f := range fieldsOf(s.Kind) {
			values := append(extremes(), f.low-1, f.low, f.high, f.high+1)
			for _, n := range values {
				changed := s
				*f.of(&changed) = n
				want := api.ErrArg
				if f.low <= n && n <= f.high {
					want = api.OK
				}
				for _, l := range [][]api.GroundStep{{changed}, {good, changed}, {changed, good}} {
					if e := shape.Check(l); e != want {
						t.Error(i, l, e)
					}
				}
			}
		}
	}
}

// P6.1: names, kinds, and what else is not used.
func TestCheckNames(t *testing.T) {
	for _, name := range kinds() {
		if e := shape.Check(program(laid(name, 0, 0, 0), laidReflected(name, 15, 15, 3))); e != api.OK {
			t.Error(name, e)
		}
	}
	for _, name := range []string{"", "f", "brick", "Half", "half ", " half", "halfs", "hal", "half\n", "half\x00", "\xff", strings.Repeat("half", 1<<20)} {
		if e := shape.Check(program(laid(name, 0, 0, 0))); e != api.ErrArg {
			t.Errorf("%.20q %d", name, e)
		}
	}
	for _, s := range oneOfEach() {
		if e := shape.Check(program(s)); e != api.OK {
			t.Error(s, e)
		}
		if s.Kind != api.GroundBrick {
			named, reflected := s, s
			named.Name, reflected.Place.Mirror = "half", true
			if e := shape.Check(program(named)); e != api.ErrArg {
				t.Error(named, e)
			}
			if e := shape.Check(program(reflected)); e != api.ErrArg {
				t.Error(reflected, e)
			}
		}
	}
	for _, kind := range []api.GroundKind{math.MinInt, -1, 0, 8, 9, 255, 256, math.MaxInt} {
		for _, s := range oneOfEach() {
			s.Kind = kind
			if e := shape.Check(program(s)); e != api.ErrArg {
				t.Error(s, e)
			}
		}
	}
	if e := shape.Check(make([]api.GroundStep, 1)); e != api.ErrArg {
		t.Error("no kind", e)
	}
}

// P6.1: how many steps there may be; that there are too many is said first, and by all functions with a program.
func TestCheckLong(t *testing.T) {
	most := slices.Repeat(program(mirror(0)), 60)
	bad := slices.Clone(most)
	bad[59].X = 31
	for _, c := range []struct {
		l []api.GroundStep
		e api.Errno
	}{
		{nil, api.OK}, {most, api.OK}, {append(most[:60:60], mirror(0)), api.ErrLong}, {bad, api.ErrArg}, {make([]api.GroundStep, 60), api.ErrArg}, {make([]api.GroundStep, 61), api.ErrLong}, {make([]api.GroundStep, 1<<16), api.ErrLong},
		// A step that can not be carried out, ahead of one that is not valid.
		{program(cut(0, 0, 1, 1), turn(31)), api.ErrArg},
	} {
		if e := shape.Check(c.l); e != c.e {
			t.Error(len(c.l), e)
		}
		s, at, e := shape.Build(c.l)
		if want := c.e; e != want && (want != api.OK || e != api.ErrForm) || at != 0 || len(s) != 0 {
			t.Error("Build", len(c.l), s, at, e)
		}
		if counts, at, e := shape.Counts(c.l); e != c.e || at != 0 || e != api.OK && len(counts) != 0 {
			t.Error("Counts", len(c.l), counts, at, e)
		}
		if text, e := shape.Format(c.l); e != c.e || e != api.OK && text != "" {
			t.Error("Format", len(c.l), text, e)
		}
	}
}

// P6.2: what each kind of steps makes, as texts of shapes in the corner.
func TestSteps(t *testing.T) {
	for _, c := range []struct {
		want string
		l    []api.GroundStep
	}{
		{"f", program(added(0, 0, 1, 1))},
		{"fff/fff", program(added(13, 14, 3, 2))},
		{"ffffffffffffffff", program(added(0, 7, 16, 1))},
		{rows("f", 16), program(added(7, 0, 1, 16))},
		{"ff/f0", program(added(2, 2, 2, 2), cut(3, 2, 1, 1))},
		{"f0f", program(added(0, 0, 3, 1), cut(1, 0, 1, 1))},
		{"3", program(corner(15, 15, 1, 0))},
		{"6", program(corner(15, 15, 1, 1))},
		{"c", program(corner(15, 15, 1, 2))},
		{"9", program(corner(15, 15, 1, 3))},
		{"3ff/03f/003", program(corner(0, 0, 3, 0))},
		{"006/06f/6ff", program(corner(0, 0, 3, 1))},
		{"c00/fc0/ffc", program(corner(0, 0, 3, 2))},
		{"ff9/f90/900", program(corner(0, 0, 3, 3))},
		{"3fff/03ff/003f/0003", program(corner(12, 12, 4, 0))},
		{"cf/fc", program(added(0, 0, 2, 2), clip(0, 1, 1, 0), clip(1, 0, 1, 0))},
		{"cff/fcf/ffc", program(added(0, 0, 3, 3), clip(0, 2, 1, 0), clip(1, 1, 1, 0), clip(2, 0, 1, 0))},
		{"c00/fc0/ffc", program(added(0, 0, 3, 3), clip(0, 0, 3, 0))},
		{"ff9/f90/900", program(added(0, 0, 3, 3), clip(0, 0, 3, 1))},
		{"3ff/03f/003", program(added(0, 0, 3, 3), clip(0, 0, 3, 2))},
		{"006/06f/6ff", program(added(0, 0, 3, 3), clip(0, 0, 3, 3))},
		{"ff/ff", program(laid("great", 14, 14, 2))},
		{"1", program(laid("quarter", 3, 3, 0))},
		{"8", program(laid("quarter", 3, 3, 1))},
		{"4", program(laid("quarter", 3, 3, 2))},
		{"2", program(laid("quarter", 3, 3, 3))},
		{"9", program(laidReflected("half", 3, 3, 0))},
		{"c", program(laidReflected("half", 3, 3, 1))},
		{"6", program(laidReflected("half", 3, 3, 2))},
		{"3", program(laidReflected("half", 3, 3, 3))},
		{"f0/ff", program(laid("bent", 3, 3, 0))},
		{"ff/f0", program(laid("bent", 3, 3, 3))},
		{"0f/ff", program(laidReflected("bent", 3, 3, 0))},
		{"ff", program(laid("quarter", 4, 4, 0), laid("quarter", 4, 4, 1), laid("quarter", 4, 4, 2), laid("quarter", 4, 4, 3), laid("square", 5, 4, 3))},
		{"22/88", program(laid("quarter", 0, 1, 3), laid("quarter", 1, 1, 3), laid("quarter", 0, 0, 1), laid("quarter", 1, 0, 1))},
		{"ff00f", program(added(0, 0, 1, 1), added(4, 0, 1, 1), added(3, 0, 1, 1), mirror(4), cut(3, 0, 1, 1))},
		{"28", program(laid("quarter", 0, 0, 3), mirror(1))},
		{"a", program(laid("quarter", 0, 0, 3), mirror(0))},
		{"15", program(laid("quarter", 1, 0, 0), mirror(1), laid("quarter", 1, 0, 2))},
		{"9", program(laid("quarter", 0, 0, 0), turn(0))},
		{"d", program(laid("quarter", 0, 0, 0), turn(0), turn(0))},
		{"f", program(laid("quarter", 0, 0, 0), turn(0), turn(0), turn(0))},
		{"f", program(laid("quarter", 0, 0, 0), turn(0), turn(0), turn(0), turn(0))},
		{"f00/00f", program(added(2, 0, 1, 1), mirror(2), cut(0, 0, 1, 1), added(0, 1, 1, 1))},
		{"f00/000/f0f", program(added(2, 0, 1, 1), turn(0), turn(2), cut(2, 2, 1, 1))},
	} {
		if e := shape.Check(c.l); e != api.OK {
			t.Error("not valid", c.l, e)
			continue
		}
		s, at, e := shape.Build(c.l)
		text := ""
		if e == api.OK {
			norm, _ := brick.Norm(s)
			text, _ = brick.Format(norm)
		}
		if text != c.want || at != 0 || e != api.OK {
			t.Error(c.want, c.l, text, at, e)
		}
	}
}

// P6.2: where the quarters of steps are.
func TestStepsAt(t *testing.T) {
	for _, c := range []struct {
		want []api.Quarter
		l    []api.GroundStep
	}{
		{[]api.Quarter{{X: 3, Y: 4}, {X: 3, Y: 4, Side: 1}}, program(corner(3, 4, 1, 0))},
		{[]api.Quarter{{X: 15, Y: 14, Side: 2}}, program(laid("quarter", 15, 14, 2))},
		{[]api.Quarter{{X: 2, Y: 5, Side: 1}, {X: 9, Y: 5, Side: 3}}, program(laid("quarter", 2, 5, 3), mirror(11))},
		{[]api.Quarter{{X: 15, Y: 5, Side: 1}, {X: 15, Y: 5, Side: 3}}, program(laid("quarter", 15, 5, 3), mirror(30))},
		{[]api.Quarter{{X: 7, Y: 1}, {X: 1, Y: 5, Side: 1}}, program(laid("quarter", 1, 5, 3), turn(12))},
		{[]api.Quarter{{X: 15, Y: 0, Side: 2}, {X: 0, Y: 15, Side: 3}}, program(laid("quarter", 0, 15, 1), turn(30))},
		{[]api.Quarter{{X: 4, Y: 6, Side: 2}, {X: 5, Y: 6, Side: 2}, {X: 5, Y: 6, Side: 3}, {X: 4, Y: 7, Side: 1}}, program(laid("quarter", 4, 6, 2), laid("quarter", 4, 7, 3), laid("quarter", 5, 6, 1), laid("quarter", 5, 6, 2))},
	} {
		if s, at, e := shape.Build(c.l); !same(s, c.want) || at != 0 || e != api.OK {
			t.Error(c.l, s, at, e)
		}
	}
}

// P6.2: the errors of steps, at which step, and which one first.
func TestStepErrors(t *testing.T) {
	square := added(0, 0, 10, 10)
	for _, c := range []struct {
		at int
		e  api.Errno
		l  []api.GroundStep
	}{
		{0, api.ErrRange, program(added(15, 0, 2, 1))},
		{0, api.ErrRange, program(added(0, 15, 1, 2))},
		{0, api.ErrRange, program(added(1, 0, 16, 1))},
		{0, api.ErrRange, program(cut(15, 0, 2, 1))},
		{0, api.ErrNone, program(cut(15, 0, 1, 1))},
		{0, api.ErrRange, program(corner(15, 0, 2, 0))},
		{0, api.ErrRange, program(corner(15, 0, 2, 1))},
		{0, api.ErrRange, program(corner(15, 0, 2, 2))},
		{0, api.ErrRange, program(corner(15, 0, 2, 3))},
		{0, api.ErrRange, program(corner(0, 15, 2, 0))},
		{0, api.ErrRange, program(corner(0, 15, 2, 1))},
		{0, api.ErrRange, program(corner(0, 15, 2, 2))},
		{0, api.ErrRange, program(corner(0, 15, 2, 3))},
		{0, api.ErrRange, program(clip(15, 15, 16, 3))},
		{0, api.ErrNone, program(clip(15, 15, 1, 3))},
		{0, api.ErrRange, program(laid("oblong", 15, 0, 0))},
		{0, api.ErrRange, program(laid("oblong", 15, 15, 1))},
		{0, api.ErrRange, program(laid("triangle", 15, 0, 2))},
		{0, api.ErrRange, program(laid("diamond", 15, 0, 2))},
		{0, api.ErrRange, program(laidReflected("diamond", 0, 15, 2))},
		{0, api.ErrLong, program(added(0, 0, 16, 16))},
		{0, api.ErrLong, program(added(0, 0, 10, 11))},
		{0, api.ErrLong, program(corner(0, 0, 16, 0))},
		{1, api.ErrTwice, program(added(0, 0, 2, 2), added(1, 1, 2, 2))},
		{1, api.ErrTwice, program(added(0, 0, 2, 2), corner(1, 1, 2, 2))},
		{1, api.ErrTwice, program(corner(0, 0, 1, 0), corner(0, 0, 1, 1))},
		{1, api.ErrTwice, program(corner(0, 0, 1, 0), laid("quarter", 0, 0, 0))},
		{1, api.ErrTwice, program(laid("half", 0, 0, 0), laid("half", 0, 0, 0))},
		{1, api.ErrTwice, program(corner(0, 0, 2, 0), added(0, 0, 2, 2))},
		{0, api.OK, program(corner(0, 0, 2, 0), corner(0, 0, 2, 2))},
		{1, api.ErrNone, program(added(0, 0, 2, 2), cut(1, 1, 2, 1))},
		{1, api.ErrNone, program(corner(0, 0, 1, 0), cut(0, 0, 1, 1))},
		{1, api.ErrNone, program(corner(0, 0, 1, 0), clip(0, 0, 1, 1))},
		{1, api.ErrNone, program(corner(0, 0, 1, 0), clip(0, 0, 1, 2))},
		{1, api.ErrNone, program(added(0, 0, 2, 2), clip(1, 0, 2, 1))},
		{0, api.OK, program(added(0, 0, 2, 2), clip(0, 0, 2, 1))},
		{1, api.ErrRange, program(added(0, 0, 2, 2), mirror(0))},
		{0, api.OK, program(added(0, 0, 2, 2), mirror(1))},
		{0, api.OK, program(added(0, 0, 2, 2), mirror(15))},
		{1, api.ErrRange, program(added(0, 0, 2, 2), mirror(16))},
		{1, api.ErrRange, program(added(0, 0, 2, 2), turn(0))},
		{0, api.OK, program(added(0, 0, 2, 2), turn(1))},
		{1, api.ErrRange, program(added(4, 0, 2, 2), turn(16))},
		{1, api.ErrRange, program(added(0, 4, 2, 2), turn(4))},
		{1, api.ErrRange, program(added(0, 4, 2, 2), turn(20))},
		{0, api.OK, program(added(0, 4, 2, 2), turn(19))},
		// What is off the grid is told ahead of what is there, or not there, and this ahead of what is too many.
		{1, api.ErrRange, program(square, added(9, 9, 8, 8))},
		{1, api.ErrRange, program(square, cut(9, 9, 8, 8))},
		{1, api.ErrRange, program(square, corner(9, 9, 8, 0))},
		{1, api.ErrRange, program(square, clip(9, 9, 8, 0))},
		{1, api.ErrRange, program(square, added(15, 15, 2, 2))},
		{1, api.ErrTwice, program(square, added(9, 9, 2, 2))},
		{1, api.ErrTwice, program(square, laid("great", 9, 9, 0))},
		{1, api.ErrTwice, program(square, corner(9, 9, 4, 2))},
		{1, api.ErrRange, program(square, mirror(8))},
		{0, api.OK, program(square, mirror(9))},
		{1, api.ErrLong, program(square, mirror(10))},
		{0, api.OK, program(square, turn(9))},
		{1, api.ErrLong, program(square, turn(10))},
		{1, api.ErrLong, program(square, laid("quarter", 10, 0, 0))},
		{1, api.ErrLong, program(square, corner(10, 0, 1, 0))},
		// Also if it is fewer at the end.
		{1, api.ErrLong, program(square, added(10, 0, 1, 1), cut(0, 0, 5, 5))},
		{0, api.OK, program(square, cut(0, 0, 1, 1), added(10, 0, 1, 1))},
		{0, api.ErrRange, program(added(15, 15, 2, 2), added(0, 0, 16, 16), cut(0, 0, 1, 1))},
		{2, api.ErrNone, program(added(0, 0, 1, 1), cut(0, 0, 1, 1), cut(0, 0, 1, 1))},
	} {
		checkStepErrors(t, c.l, c.at, c.e)
	}
}

func checkStepErrors(t *testing.T, l []api.GroundStep, at int, want api.Errno) {
	t.Helper()
	counts, place, e := shape.Counts(l)
	if e != want || place != at || e != api.OK && len(counts) != 0 || e == api.OK && len(counts) != len(l) {
		t.Error("Counts", l, counts, place, e)
	}
	s, place, e := shape.Build(l)
	if e != want || place != at || (e == api.OK) != (len(s) > 0) {
		t.Error("Build", l, s, place, e)
	}
	if e := shape.Check(l); e != api.OK {
		t.Error("Check", l, e)
	}
}

// P6.2: where no quarter is left, there is no shape, but there are counts.
func TestNothingBuilt(t *testing.T) {
	for _, c := range []struct {
		counts []int
		l      []api.GroundStep
	}{
		{nil, nil},
		{[]int{0}, program(mirror(7))},
		{[]int{0}, program(turn(30))},
		{[]int{0, 0, 0}, program(mirror(0), turn(0), mirror(30))},
		{[]int{4, 0}, program(added(5, 5, 1, 1), cut(5, 5, 1, 1))},
		{[]int{2, 0, 0}, program(laid("half", 5, 5, 0), clip(5, 5, 1, 0), turn(1))},
		{[]int{4, 8, 4, 0}, program(added(1, 0, 1, 1), mirror(3), cut(1, 0, 1, 1), cut(2, 0, 1, 1))},
	} {
		if s, at, e := shape.Build(c.l); len(s) != 0 || at != 0 || e != api.ErrForm {
			t.Error(c.l, s, at, e)
		}
		if counts, at, e := shape.Counts(c.l); !same(counts, c.counts) || at != 0 || e != api.OK {
			t.Error(c.l, counts, at, e)
		}
	}
}

// P6.2: programs make what they make of points in the plane, or have the same errors.
func TestRunLikeModel(t *testing.T) {
	next := pseudo()
	seen := map[api.Errno]int{}
	for i := range 6000 {
		l := someProgram(next, next(5), 1+i%16)
		switch {
		case i%2 == 0:
			l = append(possible(next, 1+next(7)), l...)
		case i%9 == 0:
			l = append(program(added(next(4), next(4), 12, 8)), l...)
		}
		behind, place, want := modelRun(l)
		counts, at, e := shape.Counts(l)
		if at != place || e != want || !slices.Equal(counts, countsOf(behind)) {
			t.Fatal("Counts", l, counts, at, e, place, want)
		}
		var last []api.Quarter
		if len(behind) > 0 {
			last = behind[len(behind)-1]
		}
		if want == api.OK && len(last) == 0 {
			want = api.ErrForm
		}
		s, at, e := shape.Build(l)
		if at != place || e != want || !slices.Equal(s, last) {
			t.Fatal("Build", l, s, at, e, place, want)
		}
		seen[e]++
	}
	for _, e := range []api.Errno{api.OK, api.ErrRange, api.ErrTwice, api.ErrNone, api.ErrLong, api.ErrForm} {
		if seen[e] < 30 {
			t.Error("seldom tried", e, seen[e])
		}
	}
}

func countsOf(behind [][]api.Quarter) []int {
	var l []int
	for _, s := range behind {
		l = append(l, len(s))
	}
	return l
}

// P6.9: a step more changes no count before it, also if it has an error.
func TestOneStepMore(t *testing.T) {
	next := pseudo()
	for range 400 {
		l := possible(next, 8)
		counts, _, e := shape.Counts(l)
		if e != api.OK {
			t.Fatal(l, e)
		}
		for i := range l {
			before, at, e := shape.Counts(l[:i])
			if !slices.Equal(before, counts[:i]) || at != 0 || e != api.OK {
				t.Error(l, i, before, counts, at, e)
			}
		}
		if more, at, e := shape.Counts(append(l[:len(l):len(l)], someStep(next, 16))); e == api.OK && !slices.Equal(more[:len(l)], counts) || e != api.OK && at != len(l) {
			t.Error(l, more, counts, at, e)
		}
	}
}

// P6.9: what is added and then cut off again leaves what was there, and a mirror repeated adds nothing.
func TestTakenBack(t *testing.T) {
	next := pseudo()
	cuts, mirrors := 0, 0
	for range 1500 {
		l := possible(next, 6)
		s, _, before := shape.Build(l)
		step := someStep(next, 4)
		with := append(l[:len(l):len(l)], step)
		if _, _, e := shape.Counts(with); e != api.OK {
			continue
		}
		switch step.Kind {
		case api.GroundAdd, api.GroundCorner:
			cuts++
			step.Kind++
			if back, _, e := shape.Build(append(with, step)); !slices.Equal(back, s) || e != before {
				t.Error(with, step, s, back, e)
			}
		case api.GroundMirror:
			mirrors++
			once, _, e := shape.Build(with)
			if twice, _, f := shape.Build(append(with, step)); !slices.Equal(once, twice) || e != f {
				t.Error(with, once, twice, e, f)
			}
		}
	}
	if cuts < 100 || mirrors < 30 {
		t.Error("only so many were tried:", cuts, mirrors)
	}
}
