package rite_test

import (
	"slices"
	"strings"
	"testing"

	"chiti/api"
	"chiti/rite"
)

// outcome is what a call returned: everything but the error, as text, and the same for zero values.
type outcome struct {
	results, zero string
	e             api.Errno
}

func outcomeOf[T any](x T, e api.Errno) outcome {
	var zero T
	return outcome{told(x), told(zero), e}
}

func outcomeOfTwo[T, U any](x T, y U, e api.Errno) outcome {
	var zeroX T
	var zeroY U
	return outcome{told([]any{x, y}), told([]any{zeroX, zeroY}), e}
}

// outcomes calls all functions with some arguments.
func outcomes(r api.Rite, l []api.Deed, day int, s string) map[string]outcome {
	all := map[string]outcome{
		"Check":     outcomeOf(0, rite.Check(r)),
		"Judge":     outcomeOfTwo(rite.Judge(r, l)),
		"Settled":   outcomeOf(rite.Settled(r, l)),
		"Complete":  outcomeOf(rite.Complete(r, l)),
		"Open":      outcomeOf(rite.Open(r, l, day)),
		"Forgotten": outcomeOf(rite.Forgotten(r, l, day)),
		"Hopeless":  outcomeOf(rite.Hopeless(r, l, day)),
		"Repair":    outcomeOf(rite.Repair(r, l, day)),
		"Latest":    outcomeOf(rite.Latest(r, l)),
		"Write":     outcomeOf(rite.Write(r, l)),
	}
	// The line of an error is no zero value: TestRead tests it.
	deeds, _, e := rite.Read(r, s)
	all["Read"] = outcomeOf(deeds, e)
	return all
}

// P1: no function panics, whatever it is given, and with an error every other result is zero; the same call has the same result.
func TestWild(t *testing.T) {
	next := pseudo()
	integer := func() int { return extremes()[next(len(extremes()))] }
	integers := func() []int {
		var l []int
		for range next(5) {
			l = append(l, integer())
		}
		return l
	}
	ok := map[string]int{}
	for range 10000 {
		r := someRite(next, 10, 31)
		l := someCourse(next, r)
		day := someDay(next, r, l)
		s, _ := rite.Write(r, l)
		a := &r.Acts[next(len(r.Acts))]
		switch next(24) {
		case 0:
			*[]*int{&r.Last, &r.Toil, &a.From, &a.To, &a.Atone}[next(5)] = integer()
		case 1:
			a.Needs = integers()
		case 2:
			a.Instead = integers()
		case 3:
			a.Name = []string{"", "a", "A", strings.Repeat("a", 13), "\xff", "a b"}[next(6)]
		case 4, 5:
			l = append(l, api.Deed{Day: integer(), Act: integer()})
		case 6:
			day = integer()
		case 7:
			s += []string{"x", "\n", "0 a\n", "\xff\n", strings.Repeat("1 a\n", 300)}[next(5)]
		case 8:
			a.Extra = !a.Extra
		}
		before := outcomes(r, l, day, s)
		for name, o := range outcomes(r, l, day, s) {
			if o != before[name] || o.e != api.OK && o.results != o.zero {
				t.Error(name, r, l, day, s, o, before[name])
			}
			if o.e == api.OK {
				ok[name]++
			}
		}
	}
	for name := range outcomes(api.Rite{}, nil, 0, "") {
		if ok[name] < 1000 {
			t.Error("only so many calls without an error:", name, ok[name])
		}
	}
	for name, o := range outcomes(api.Rite{Acts: make([]api.Act, 1<<18)}, make([]api.Deed, 1<<18), 0, strings.Repeat("0", 1<<18)) {
		if o.e != api.ErrArg || o.results != o.zero {
			t.Error(name, o)
		}
	}
}

// R3: a nil list and an empty one are the same.
func TestNilAndEmpty(t *testing.T) {
	for _, x := range []api.Rite{fire(1), vow(2), many(3), riteOf(3, 1)} {
		y := x
		y.Acts = []api.Act{}
		for _, a := range x.Acts {
			a.Needs, a.Instead = append([]int{}, a.Needs...), append([]int{}, a.Instead...)
			y.Acts = append(y.Acts, a)
		}
		first := outcomes(x, nil, 0, "")
		for name, o := range outcomes(y, []api.Deed{}, 0, "") {
			if o != first[name] {
				t.Error(name, x, o, first[name])
			}
		}
	}
}

// roomy returns a copy of a list with room behind it, which an append would take.
func roomy[T any](l []T) []T { return append(make([]T, 0, 2*len(l)+9), l...) }

// scribble writes over a list, and over the spare room behind it.
func scribble[T any](with T, l []T) {
	for i := range l[:cap(l)] {
		l[:cap(l)][i] = with
	}
}

// isUnused reports whether the room behind a list is as it was made.
func isUnused[T comparable](l []T) bool {
	var zero T
	return !slices.ContainsFunc(l[len(l):cap(l)], func(x T) bool { return x != zero })
}

// R4: no call changes its arguments, and no result shares memory with them, or with another result.
func TestMemory(t *testing.T) {
	next := pseudo()
	given := []api.Rite{fire(1), fire(2), vow(2), many(10)}
	for range 300 {
		given = append(given, someRite(next, 10, 31))
	}
	for _, old := range given {
		r := copied(old)
		r.Acts = roomy(r.Acts)
		for i := range r.Acts {
			r.Acts[i].Needs, r.Acts[i].Instead = roomy(r.Acts[i].Needs), roomy(r.Acts[i].Instead)
		}
		was := someCourse(next, old)
		l, day := roomy(was), someDay(next, old, was)
		s, _ := rite.Write(r, l)
		results := func() []any {
			settled, _ := rite.Settled(r, l)
			open, _ := rite.Open(r, l, day)
			forgotten, _ := rite.Forgotten(r, l, day)
			hopeless, _ := rite.Hopeless(r, l, day)
			more, _ := rite.Repair(r, l, day)
			read, _, _ := rite.Read(r, s)
			return []any{settled, open, forgotten, hopeless, more, read}
		}
		outcomes(r, l, day, s)
		first := results()
		before := told(first)
		for i, a := range r.Acts {
			if !same(a, old.Acts[i]) || !isUnused(a.Needs) || !isUnused(a.Instead) {
				t.Error("changed", old, r)
			}
		}
		if !same(r, old) || !slices.Equal(l, was) || !isUnused(l) {
			t.Error("changed", old, r, was, l)
		}
		for _, x := range results() {
			switch x := x.(type) {
			case []int:
				scribble(-9, x)
			case []api.Deed:
				scribble(api.Deed{Day: -9, Act: -9}, x)
			}
		}
		if told(first) != before || !same(r, old) || !slices.Equal(l, was) || told(results()) != before {
			t.Error("shared with another call", old, was)
		}
		for _, a := range r.Acts {
			scribble(-9, a.Needs)
			scribble(-9, a.Instead)
		}
		scribble(api.Act{}, r.Acts)
		scribble(api.Deed{Day: -9, Act: -9}, l)
		if told(first) != before {
			t.Error("shared with an argument", old, was)
		}
	}
}
