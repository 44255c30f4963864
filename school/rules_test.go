package school_test

import (
	"slices"
	"strings"
	"testing"

	"chiti/api"
	"chiti/school"
)

// outcome is what a call returned: everything but the error and the number of an edit or word with an error, as text, and the same for zero values.
type outcome struct {
	results, zero string
	at            int
	e             api.Errno
}

func outcomeOf[T any](x T, e api.Errno) outcome {
	var zero T
	return outcome{told(x), told(zero), 0, e}
}

func outcomeAt[T any](x T, at int, e api.Errno) outcome {
	o := outcomeOf(x, e)
	o.at = at
	return o
}

func outcomeOfTwo[T, U any](x T, y U, e api.Errno) outcome {
	var zeroX T
	var zeroY U
	return outcome{told([]any{x, y}), told([]any{zeroX, zeroY}), 0, e}
}

// arguments are those of all functions.
type arguments struct {
	base, a, b        []string
	l                 []api.Edit
	parents, readings []int
	s, t              api.School
	i, j, question    int
	c                 []int
}

// outcomes calls all functions with some arguments.
func outcomes(x arguments) map[string]outcome {
	return map[string]outcome{
		"Align":   outcomeOf(school.Align(x.a, x.b)),
		"Apply":   outcomeAt(school.Apply(x.a, x.l)),
		"Invert":  outcomeOf(school.Invert(x.l)),
		"Merge":   outcomeAt(school.Merge(x.base, x.a, x.b)),
		"Restore": outcomeOfTwo(school.Restore(x.parents, x.readings)),
		"Check":   outcomeOf(0, school.Check(x.s)),
		"Special": outcomeOf(school.Special(x.s, x.i, x.j)),
		"Decide":  outcomeOfTwo(school.Decide(x.s, x.c, x.question)),
		"Gaps":    outcomeOfTwo(school.Gaps(x.s, x.question)),
		"Differ":  outcomeOf(school.Differ(x.s, x.t, x.question)),
	}
}

// isClean reports whether there is nothing in an outcome with an error but what the chapter says.
func (o outcome) isClean(name string) bool {
	hasPlace := name == "Apply" && (o.e == api.ErrRange || o.e == api.ErrOther) || name == "Merge" && o.e == api.ErrClash
	return (o.e == api.OK || o.results == o.zero) && (hasPlace || o.at == 0)
}

// someArguments returns arguments of which most are valid.
func someArguments(next func(n int) int) arguments {
	x := arguments{base: someText(next, 18), s: someSchool(next, 3)}
	x.a, x.b = someOther(next, x.base), someOther(next, x.base)
	x.l = someEdits(next, x.a, 5)
	x.parents, x.readings = someCopies(next, 20, 16, 9)
	x.t = varied(next, x.s)
	x.i, x.j, x.question = next(4), next(4), next(x.s.Questions)
	for _, choices := range x.s.Features {
		x.c = append(x.c, next(choices))
	}
	return x
}

// spoil changes one of some arguments.
func spoil(next func(n int) int, x *arguments) {
	integer := func() int { return extremes()[next(len(extremes()))] }
	word := func() string { return []string{"", "A", "a b", "\xff", strings.Repeat("a", 13), "a", "b"}[next(7)] }
	oneOf := func(l []int) {
		if len(l) > 0 {
			l[next(len(l))] = integer()
		}
	}
	switch next(14) {
	case 0:
		text := []*[]string{&x.base, &x.a, &x.b}[next(3)]
		*text = append(*text, word())
	case 1:
		x.base, x.a, x.b = x.a, x.b, x.base
	case 2:
		x.l = append(x.l, api.Edit{Kind: api.EditKind(next(5)), At: integer(), Old: word(), New: word()})
	case 3:
		x.l = slices.Repeat(x.l, 1+next(3))
	case 4:
		oneOf(x.parents)
	case 5:
		oneOf(x.readings)
	case 6:
		x.parents = append(x.parents, integer())
	case 7:
		oneOf([][]int{x.s.Features, x.t.Features}[next(2)])
	case 8:
		*[]*int{&x.s.Questions, &x.t.Questions}[next(2)] = integer()
	case 9:
		x.s.Rules = append(x.s.Rules, api.Rule{Ask: integer(), Say: integer()})
	case 10:
		x.t.Rules = append(x.t.Rules, api.Rule{When: []api.Test{{Feature: integer(), Choices: integer()}}})
	case 11:
		*[]*int{&x.i, &x.j}[next(2)] = integer()
	case 12:
		x.question = integer()
	case 13:
		oneOf(x.c)
	}
}

// P1: no function panics, whatever it is given, and with an error every other result is zero; the same call has the same result.
func TestWild(t *testing.T) {
	next := pseudo()
	ok, bad := map[string]int{}, map[string]int{}
	for range 8000 {
		x := someArguments(next)
		for range next(5) {
			spoil(next, &x)
		}
		before := outcomes(x)
		for name, o := range outcomes(x) {
			if o != before[name] || !o.isClean(name) {
				t.Error(name, x, o, before[name])
			}
			if o.e == api.OK {
				ok[name]++
			} else {
				bad[name]++
			}
		}
	}
	for name := range outcomes(arguments{}) {
		if ok[name] < 500 || bad[name] < 300 {
			t.Error("only so many calls of a sort:", name, ok[name], bad[name])
		}
	}
}

// P1: lists and texts of any size are refused.
func TestGreat(t *testing.T) {
	great := 1 << 18
	x := arguments{
		base: times(great, "a"), a: times(great, "a"), b: []string{strings.Repeat("a", great)}, l: make([]api.Edit, great),
		parents: make([]int, great), readings: make([]int, great), s: schoolOf(make([]int, great), 1), t: fines(), c: make([]int, great),
	}
	wants := map[string]api.Errno{
		"Align": api.ErrArg, "Apply": api.ErrArg, "Invert": api.ErrForm, "Merge": api.ErrArg, "Restore": api.ErrLong,
		"Check": api.ErrArg, "Special": api.ErrArg, "Decide": api.ErrArg, "Gaps": api.ErrArg, "Differ": api.ErrArg,
	}
	for name, o := range outcomes(x) {
		if o.e != wants[name] || o.results != o.zero || o.at != 0 {
			t.Error(name, o.at, o.e)
		}
	}
}

// R3: a nil list and an empty one are the same.
func TestNilAndEmpty(t *testing.T) {
	empty := arguments{
		base: []string{}, a: []string{}, b: []string{}, l: []api.Edit{}, parents: []int{}, readings: []int{}, c: []int{},
		s: api.School{Features: []int{}, Rules: []api.Rule{}}, t: api.School{Features: []int{}, Rules: []api.Rule{}},
	}
	pairs := [][2]arguments{{{}, empty}}
	for _, features := range [][]int{{2, 3}, {1}} {
		s, other := schoolOf(features, 1), schoolOf(features, 1)
		other.Rules = []api.Rule{}
		pairs = append(pairs, [2]arguments{{s: s, t: other, c: features}, {s: other, t: s, c: features}})
		one, two := with(s, api.Rule{}), with(s, api.Rule{When: []api.Test{}})
		c := make([]int, len(features))
		pairs = append(pairs, [2]arguments{{s: one, t: two, c: c}, {s: two, t: one, c: c}})
	}
	for i, pair := range pairs {
		first := outcomes(pair[0])
		for name, o := range outcomes(pair[1]) {
			if o != first[name] || !o.isClean(name) {
				t.Error(i, name, o, first[name])
			}
		}
	}
}

// roomy returns a copy of a list with room behind it, which an append would take.
func roomy[T any](l []T) []T { return append(make([]T, 0, 2*len(l)+9), l...) }

func roomySchool(s api.School) api.School {
	s.Features, s.Rules = roomy(s.Features), roomy(s.Rules)
	for i := range s.Rules {
		s.Rules[i].When = roomy(s.Rules[i].When)
	}
	return s
}

// scribble writes over a list, and over the spare room behind it.
func scribble[T any](with T, l []T) {
	for i := range l[:cap(l)] {
		l[:cap(l)][i] = with
	}
}

func scribbleSchool(s api.School) {
	for _, r := range s.Rules {
		scribble(api.Test{Feature: -9}, r.When)
	}
	scribble(-9, s.Features)
	scribble(api.Rule{Ask: -9}, s.Rules)
}

// isUnused reports whether the room behind a list is as it was made.
func isUnused[T comparable](l []T) bool {
	var zero T
	return !slices.ContainsFunc(l[len(l):cap(l)], func(x T) bool { return x != zero })
}

func isUnusedSchool(s api.School) bool {
	for _, r := range s.Rules {
		if !isUnused(r.When) {
			return false
		}
	}
	return isUnused(s.Features) && !slices.ContainsFunc(s.Rules[len(s.Rules):cap(s.Rules)], func(r api.Rule) bool { return !same(r, api.Rule{}) })
}

// lists are the lists that functions return for some arguments.
type lists struct {
	aligned, undone []api.Edit
	applied, merged []string
	restored        []int
	by, apart       []int
}

func listsOf(x arguments) lists {
	var l lists
	l.aligned, _ = school.Align(x.a, x.b)
	l.undone, _ = school.Invert(x.l)
	l.applied, _, _ = school.Apply(x.a, x.l)
	l.merged, _, _ = school.Merge(x.base, x.a, x.b)
	l.restored, _, _ = school.Restore(x.parents, x.readings)
	_, l.by, _ = school.Decide(x.s, x.c, x.question)
	l.apart, _ = school.Differ(x.s, x.t, x.question)
	return l
}

// R4: no call changes its arguments, and no result shares memory with them, or with that of another call.
func TestMemory(t *testing.T) {
	next := pseudo()
	for round := range 1000 {
		x := someArguments(next)
		// Nothing is left to do, so that a text, or a list, could be returned as it is.
		if round%3 == 0 {
			x.l, x.a = nil, x.base
			x.readings = make([]int, len(x.parents))
		}
		x.base, x.a, x.b, x.l, x.c = roomy(x.base), roomy(x.a), roomy(x.b), roomy(x.l), roomy(x.c)
		x.parents, x.readings = roomy(x.parents), roomy(x.readings)
		x.s, x.t = roomySchool(x.s), roomySchool(x.t)
		was := told(x)
		outcomes(x)
		first := listsOf(x)
		before := told(first)
		if told(x) != was || !isUnused(x.base) || !isUnused(x.a) || !isUnused(x.b) || !isUnused(x.l) || !isUnused(x.c) || !isUnused(x.parents) || !isUnused(x.readings) || !isUnusedSchool(x.s) || !isUnusedSchool(x.t) {
			t.Error("changed", was, told(x))
		}
		second := listsOf(x)
		scribble(api.Edit{At: -9}, second.aligned)
		scribble(api.Edit{At: -9}, second.undone)
		scribble("R", second.applied)
		scribble("R", second.merged)
		scribble(-9, second.restored)
		scribble(-9, second.by)
		scribble(-9, second.apart)
		if told(first) != before || told(x) != was || told(listsOf(x)) != before {
			t.Error("shared with another call", was)
		}
		scribble("R", x.base)
		scribble("R", x.a)
		scribble("R", x.b)
		scribble(api.Edit{At: -9}, x.l)
		scribble(-9, x.c)
		scribble(-9, x.parents)
		scribble(-9, x.readings)
		scribbleSchool(x.s)
		scribbleSchool(x.t)
		if told(first) != before {
			t.Error("shared with an argument", was)
		}
	}
}
