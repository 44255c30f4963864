package shape_test

import (
	"slices"
	"strings"
	"testing"

	"chiti/api"
	"chiti/brick"
	"chiti/shape"
	"chiti/surd"
)

// outcome is what a call returned: everything but the error and the number of a step, as text, and the same for zero values.
type outcome struct {
	results, zero string
	at            int
	e             api.Errno
}

func outcomeOf[T any](x T, e api.Errno) outcome {
	var zero T
	return outcome{told(x), told(zero), 0, e}
}

func outcomeAt[T any](x T, at int, e api.Errno) outcome {
	o := outcomeOf(x, e)
	o.at = at
	return o
}

// outcomes calls all functions with some arguments.
func outcomes(l []api.GroundStep, s []api.Quarter, area api.Number, times int, text string) map[string]outcome {
	return map[string]outcome{
		"Check":      outcomeOf(0, shape.Check(l)),
		"Build":      outcomeAt(shape.Build(l)),
		"Counts":     outcomeAt(shape.Counts(l)),
		"Format":     outcomeOf(shape.Format(l)),
		"Parse":      outcomeOf(shape.Parse(text)),
		"Area":       outcomeOf(shape.Area(s)),
		"Around":     outcomeOf(shape.Around(s)),
		"Center":     outcomeOf(shape.Center(s)),
		"Unit":       outcomeOf(shape.Unit(s, area)),
		"Symmetries": outcomeOf(shape.Symmetries(s)),
		"Holes":      outcomeOf(shape.Holes(s)),
		"Enlarge":    outcomeOf(shape.Enlarge(s, times)),
	}
}

// withShape returns the names of the functions with a shape.
func withShape() []string {
	return []string{"Area", "Around", "Center", "Unit", "Symmetries", "Holes", "Enlarge"}
}

// withProgram returns the names of the functions with a program.
func withProgram() []string { return []string{"Check", "Build", "Counts", "Format"} }

// P1: no function panics, whatever it is given; with an error every other result is zero, but for the number of a step; the same call has the same result.
func TestWild(t *testing.T) {
	next := pseudo()
	integer := func() int { return extremes()[next(len(extremes()))] }
	wildStep := func() api.GroundStep {
		s := someStep(next, 16)
		fields := []*int{&s.X, &s.Y, &s.W, &s.H, &s.Side, &s.Place.X, &s.Place.Y, &s.Place.Turns}
		switch next(4) {
		case 0:
			*fields[next(len(fields))] = integer()
		case 1:
			s.Kind = api.GroundKind(integer())
		}
		return s
	}
	words := []string{"", "\n", "add 0 0 1 1\n", "turn 3\n", "brick half 0 0 0\n", "reflected bent 1 2 3\n", "corner 1 2 3 ne\n", "clip 1 2 3 \n", "mirror", "\x80\n", " ", strings.Repeat("turn 0\n", 61)}
	for range 3000 {
		var l []api.GroundStep
		for range next(6) {
			l = append(l, wildStep())
		}
		s := someShape(next, 4)
		if next(3) == 0 {
			s[next(len(s))] = quarter(integer(), integer(), integer())
		}
		area := api.Number{Den: integer(), Terms: []api.Term{{Coef: integer(), Root: integer()}}}
		times, text := integer(), words[next(len(words))]+words[next(len(words))]
		first := outcomes(l, s, area, times, text)
		for name, o := range outcomes(l, s, area, times, text) {
			if o != first[name] || o.e != api.OK && o.results != o.zero || o.at != 0 && (o.e == api.OK || o.at >= len(l)) {
				t.Error(name, l, s, area, times, o, first[name])
			}
		}
	}
	for name, o := range outcomes(make([]api.GroundStep, 1<<16), make([]api.Quarter, 1<<16), api.Number{Terms: make([]api.Term, 1<<16)}, 1, string(make([]byte, 1<<16))) {
		if o.e != api.ErrLong || o.results != o.zero || o.at != 0 {
			t.Error(name, o)
		}
	}
}

// P1: errors of a list that is no shape come first, in all functions with one.
func TestNoShapes(t *testing.T) {
	for _, c := range []struct {
		s []api.Quarter
		e api.Errno
	}{
		{nil, api.ErrArg},
		{[]api.Quarter{}, api.ErrArg},
		{[]api.Quarter{quarter(16, 0, 0)}, api.ErrArg},
		{[]api.Quarter{quarter(0, -1, 0)}, api.ErrArg},
		{[]api.Quarter{quarter(0, 0, 4)}, api.ErrArg},
		{[]api.Quarter{quarter(0, 0, -1)}, api.ErrArg},
		{[]api.Quarter{quarter(0, 0, 1), quarter(0, 0, 0)}, api.ErrArg},
		{[]api.Quarter{quarter(0, 0, 1), quarter(0, 0, 1)}, api.ErrArg},
		{[]api.Quarter{quarter(0, 1, 0), quarter(1, 0, 0)}, api.ErrArg},
		{append(full(399), quarter(0, 0, 0)), api.ErrArg},
		{full(401), api.ErrLong},
		{make([]api.Quarter, 401), api.ErrLong},
	} {
		if e := brick.Check(c.s); e != c.e {
			t.Error("brick.Check", c.s, e)
		}
		for _, times := range []int{0, 1, 9} {
			all := outcomes(nil, c.s, api.Number{}, times, "")
			for _, name := range withShape() {
				if o := all[name]; o.e != c.e || o.results != o.zero {
					t.Error(name, c.s, o)
				}
			}
		}
	}
}

// P1: errors of a list that is no program come first, in all functions with one.
func TestNoPrograms(t *testing.T) {
	bad := api.GroundStep{Kind: 8}
	for _, c := range []struct {
		l []api.GroundStep
		e api.Errno
	}{
		{program(bad), api.ErrArg},
		{program(added(15, 15, 2, 2), bad), api.ErrArg},
		{program(cut(0, 0, 1, 1), mirror(30), bad), api.ErrArg},
		{program(added(0, 0, 16, 16), bad), api.ErrArg},
		{slices.Repeat(program(bad), 61), api.ErrLong},
		{slices.Repeat(program(added(0, 0, 16, 16)), 61), api.ErrLong},
	} {
		all := outcomes(c.l, nil, api.Number{}, 0, "")
		for _, name := range withProgram() {
			if o := all[name]; o.e != c.e || o.results != o.zero || o.at != 0 {
				t.Error(name, c.l, o)
			}
		}
	}
}

// R3: a nil list and an empty one are the same.
func TestNilAndEmpty(t *testing.T) {
	first := outcomes(nil, nil, api.Number{Den: 1}, 1, "")
	for name, o := range outcomes([]api.GroundStep{}, []api.Quarter{}, api.Number{Den: 1, Terms: []api.Term{}}, 1, "") {
		if o != first[name] {
			t.Error(name, o, first[name])
		}
	}
	for _, zero := range []api.Number{{Den: 1}, {Den: 1, Terms: []api.Term{}}} {
		if u, e := shape.Unit(full(1), zero); !same(u, api.Number{}) || e != api.ErrRange {
			t.Error(zero, u, e)
		}
	}
}

// roomy returns a copy of a list with room behind it, which an append would take.
func roomy[T any](l []T) []T { return append(make([]T, 0, 2*len(l)+9), l...) }

// scribble writes over lists, and over the spare room behind them.
func scribble[T any](with T, lists ...[]T) {
	for _, s := range lists {
		for i := range s[:cap(s)] {
			s[:cap(s)][i] = with
		}
	}
}

// R4: no call changes a shape, and no result shares memory with it, nor its lists with each other.
func TestMemoryOfShapes(t *testing.T) {
	wild := quarter(-9, -9, -9)
	for _, text := range []string{"f", "7", "ff/ff", "fff/f5f/fff", "fffff/f0f0f/fffff"} {
		s := roomy(ofText(t, text))
		area := api.Number{Den: 1, Terms: roomy([]api.Term{{Coef: 8, Root: 1}})}
		large, _ := shape.Enlarge(s, 2)
		small, _ := shape.Enlarge(s, 1)
		lists, _ := shape.Holes(s)
		lists = append(lists, large, small)
		center, _ := shape.Center(s)
		unit, _ := shape.Unit(s, area)
		around, _ := shape.Around(s)
		whole, _ := shape.Area(s)
		symmetries, _ := shape.Symmetries(s)
		numbers := [][]api.Term{center.X.Terms, center.Y.Terms, unit.Terms, around.Terms, whole.Terms}
		before := told([]any{lists, numbers, symmetries})
		if !same(s, ofText(t, text)) || !same(area, number(t, "8")) || !unused(s) || !unused(area.Terms) {
			t.Error("changed", text, s, area)
		}
		scribble(wild, s)
		scribble(api.Term{}, area.Terms)
		if told([]any{lists, numbers, symmetries}) != before {
			t.Error("shared with an argument", text)
		}
		for i := range lists {
			after := told(lists[i+1:])
			scribble(wild, lists[i])
			if told(lists[i+1:]) != after {
				t.Error("lists shared with each other", text, i)
			}
		}
		for i := range numbers {
			after := told(numbers[i+1:])
			scribble(api.Term{}, numbers[i])
			if told(numbers[i+1:]) != after {
				t.Error("numbers shared with each other", text, i)
			}
		}
		if again, e := shape.Symmetries(ofText(t, text)); !same(again, symmetries) || e != api.OK {
			t.Error("another result", text, again, e)
		}
	}
}

// unused reports whether the room behind a list is as it was made.
func unused[T comparable](l []T) bool {
	var zero T
	return !slices.ContainsFunc(l[len(l):cap(l)], func(x T) bool { return x != zero })
}

// R4: no call changes a program, and no result shares memory with it or with a later result.
func TestMemoryOfPrograms(t *testing.T) {
	for _, l := range [][]api.GroundStep{oneOfEach()[:1], program(laid("bent", 3, 3, 1), mirror(9), turn(15)), program(added(0, 0, 4, 4), clip(0, 0, 3, 2), cut(3, 3, 1, 1))} {
		steps := roomy(l)
		s, _, e := shape.Build(steps)
		counts, _, f := shape.Counts(steps)
		text, g := shape.Format(steps)
		back, h := shape.Parse(text)
		before := told([]any{s, counts, text, back})
		if !slices.Equal(steps, l) || !unused(steps) || e != api.OK || f != api.OK || g != api.OK || h != api.OK {
			t.Error("changed", steps, l, e, f, g, h)
		}
		scribble(api.GroundStep{}, steps)
		if told([]any{s, counts, text, back}) != before {
			t.Error("shared with an argument", l)
		}
		scribble(quarter(-9, -9, -9), s)
		scribble(-9, counts)
		scribble(api.GroundStep{}, back)
		s, _, _ = shape.Build(l)
		counts, _, _ = shape.Counts(l)
		back, _ = shape.Parse(text)
		if told([]any{s, counts, text, back}) != before {
			t.Error("another result", l)
		}
	}
}

// The examples of the chapter, and those of the document that are about it.
func TestExamples(t *testing.T) {
	counts, _, e := shape.Counts(program(corner(0, 0, 3, 0), corner(0, 0, 3, 2)))
	if !slices.Equal(counts, []int{18, 36}) || e != api.OK {
		t.Error(counts, e)
	}
	if s := built(t, added(0, 0, 2, 1), mirror(3)); !slices.Equal(s, full(16)) {
		t.Error(s)
	}
	square := built(t, added(0, 0, 3, 3), cut(1, 1, 1, 1))
	if m := measured(square); m != (measures{"8", "16", 8, 1}) {
		t.Error(m)
	}
	if p, e := shape.Center(square); textOf(p.X) != "3/2" || textOf(p.Y) != "3/2" || e != api.OK {
		t.Error(p, e)
	}
	area, _ := surd.Parse("15/2")
	if u, e := shape.Unit(built(t, added(4, 4, 2, 2)), area); textOf(u) != "r30/4" || e != api.OK {
		t.Error(u, e)
	}
}
