package rite_test

import (
	"fmt"
	"math"
	"slices"
	"testing"

	"chiti/api"
	"chiti/rite"
)

// fire returns the rite of the document's examples.
func fire(toil int) api.Rite {
	return api.Rite{Last: 5, Toil: toil, Acts: []api.Act{
		{Name: "kindle", To: 2, Atone: 2},
		{Name: "offer", Needs: []int{0}, From: 1, To: 3, Atone: -1},
		{Name: "amend", To: 5, Atone: -1, Extra: true},
	}}
}

// vow returns a rite in which all that can be between acts is there: substitutes of substitutes, an atonement for two acts, one that never comes to be done, and an extra act that is there for no other one.
func vow(toil int) api.Rite {
	return api.Rite{Last: 9, Toil: toil, Acts: []api.Act{
		{Name: "wake", To: 2, Atone: 6},
		{Name: "bathe", Needs: []int{0}, Instead: []int{4, 5}, From: 1, To: 3, Atone: -1},
		{Name: "offer", Needs: []int{0, 1}, From: 2, To: 6, Atone: -1},
		{Name: "feed", From: 3, To: 7, Atone: 6},
		{Name: "sprinkle", Needs: []int{0}, Instead: []int{5}, From: 2, To: 5, Atone: 7, Extra: true},
		{Name: "think", From: 5, To: 8, Atone: -1, Extra: true},
		{Name: "repent", Needs: []int{3}, From: 1, To: 9, Atone: -1, Extra: true},
		{Name: "mumble", To: 9, Atone: -1, Extra: true},
		{Name: "idle", To: 9, Atone: -1, Extra: true},
	}}
}

// must returns an act that is to be done from one day to another.
func must(name string, from, to int, needs ...int) api.Act {
	return api.Act{Name: name, Needs: needs, From: from, To: to, Atone: -1}
}

// extra returns an act that is only done for others.
func extra(name string, from, to int, needs ...int) api.Act {
	a := must(name, from, to, needs...)
	a.Extra = true
	return a
}

// with returns an act that has substitutes and an atonement.
func with(a api.Act, atone int, instead ...int) api.Act {
	a.Atone, a.Instead = atone, instead
	return a
}

func riteOf(last, toil int, acts ...api.Act) api.Rite {
	return api.Rite{Acts: acts, Last: last, Toil: toil}
}

// course returns deeds from days and acts.
func course(l ...int) []api.Deed {
	var deeds []api.Deed
	for i := 0; i < len(l); i += 2 {
		deeds = append(deeds, api.Deed{Day: l[i], Act: l[i+1]})
	}
	return deeds
}

func acts(l ...int) []int { return l }

func told(x any) string { return fmt.Sprintf("%+v", x) }

// same reports whether two results are told in the same way; a nil list and an empty one are.
func same(x, y any) bool { return told(x) == told(y) }

// copied returns a copy of a rite that shares no memory with it.
func copied(r api.Rite) api.Rite {
	r.Acts = slices.Clone(r.Acts)
	for i := range r.Acts {
		a := &r.Acts[i]
		a.Needs, a.Instead = slices.Clone(a.Needs), slices.Clone(a.Instead)
	}
	return r
}

// joined returns a course with deeds behind it, in memory of its own.
func joined(l []api.Deed, more ...api.Deed) []api.Deed { return slices.Concat(l, more) }

// pseudo returns a function that yields integers from 0 to below n, the same ones in every run.
func pseudo() func(n int) int {
	state := uint64(88172645463325252)
	return func(n int) int {
		state ^= state << 13
		state ^= state >> 7
		state ^= state << 17
		return int(state % uint64(n))
	}
}

func extremes() []int {
	return []int{
		math.MinInt, math.MinInt + 1, -1 << 32, -2, -1, 0, 1, 2, 3, 4, 5, 9, 10, 11, 12, 15, 16, 29, 30, 31, 32, 63, 64, 99, 100,
		1 << 16, 1<<32 + 1, 1 << 62, math.MaxInt - 1, math.MaxInt,
	}
}

// some returns those of some numbers that come up, one time in so many.
func some(next func(n int) int, numbers []int, often int) []int {
	return slices.DeleteFunc(slices.Clone(numbers), func(int) bool { return next(often) > 0 })
}

// someRite returns a valid rite with up to so many acts, of which some are extra ones, and up to so many days.
func someRite(next func(n int) int, most, days int) api.Rite {
	r := api.Rite{Last: next(days), Toil: []int{1, 1, 2, 2, 3, 4}[next(6)]}
	count := most - next(1+next(most))
	var substitutes, atonements []int
	for i := range count {
		a := api.Act{Name: string(rune('a'+i)) + "bc"[:next(3)], Atone: -1, Extra: next(5) < 2}
		x, y := next(r.Last+1), next(r.Last+1)
		a.From, a.To = min(x, y), max(x, y)
		if next(3) == 0 || a.Extra && next(2) == 0 {
			a.To = r.Last
		}
		if a.Extra && next(2) == 0 {
			substitutes = append(substitutes, i)
		} else if a.Extra {
			atonements = append(atonements, i)
		}
		r.Acts = append(r.Acts, a)
	}
	relate(next, r, substitutes, atonements)
	return r
}

// relate puts between the acts of a rite what there can be.
func relate(next func(n int) int, r api.Rite, substitutes, atonements []int) {
	often := []int{4, 10, 30}[next(3)]
	for i := range r.Acts {
		a := &r.Acts[i]
		isOwn := func(act int) bool { return act == i }
		var all []int
		for act := range r.Acts {
			all = append(all, act)
		}
		a.Needs = slices.DeleteFunc(some(next, all, often), isOwn)
		a.Instead = slices.DeleteFunc(some(next, substitutes, 2), isOwn)
		if l := slices.DeleteFunc(some(next, atonements, 2), isOwn); len(l) > 0 {
			a.Atone = l[next(len(l))]
		}
	}
}

// someCourse returns a right course of a rite; often much is done on the same day.
func someCourse(next func(n int) int, r api.Rite) []api.Deed {
	var l []api.Deed
	for day, turns := 0, next([]int{1, 4, 16}[next(3)]); day <= r.Last && turns > 0; turns-- {
		open := modelThose(r, func(act int) bool { return modelBroken(r, l, api.Deed{Day: day, Act: act}) == 0 })
		if len(open) == 0 || next(5) == 0 {
			day += 1 + next(1+r.Last/6)
			continue
		}
		l = append(l, api.Deed{Day: day, Act: open[next(len(open))]})
	}
	return l
}

// someDay returns a day that may be asked for after a course.
func someDay(next func(n int) int, r api.Rite, l []api.Deed) int {
	first := modelDay(l)
	return first + next(r.Last-first+1)
}

// isRight tests that there is no deed in a course that breaks a rule.
func isRight(t *testing.T, r api.Rite, l []api.Deed) bool {
	t.Helper()
	at, rule, e := rite.Judge(r, l)
	if e != api.OK || (at == -1) != (rule == 0) {
		t.Error(r, l, at, rule, e)
	}
	return rule == 0
}

// completes tests that a course is right, and returns whether it completes the rite.
func completes(t *testing.T, r api.Rite, l []api.Deed) bool {
	t.Helper()
	is, e := rite.Complete(r, l)
	if e != api.OK {
		t.Error(r, l, e)
	}
	return is
}
