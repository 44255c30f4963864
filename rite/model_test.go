package rite_test

import (
	"slices"

	"chiti/api"
)

// The model follows the chapter word by word: with the whole course at each deed, with all sets of acts, and with all lists of deeds.

func modelDone(l []api.Deed, act int) bool {
	return slices.ContainsFunc(l, func(d api.Deed) bool { return d.Act == act })
}

func modelSettled(r api.Rite, l []api.Deed, act int) bool {
	a := r.Acts[act]
	if modelDone(l, act) || a.Atone >= 0 && modelDone(l, a.Atone) {
		return true
	}
	return slices.ContainsFunc(a.Instead, func(other int) bool { return modelDone(l, other) })
}

func modelForgotten(r api.Rite, l []api.Deed, act, day int) bool {
	return !r.Acts[act].Extra && day > r.Acts[act].To && !modelSettled(r, l, act)
}

// modelDay returns the day of the last deed, or 0.
func modelDay(l []api.Deed) int {
	if len(l) == 0 {
		return 0
	}
	return l[len(l)-1].Day
}

// modelBroken returns the first rule that a deed after some others breaks, and 0 if there is none.
func modelBroken(r api.Rite, l []api.Deed, d api.Deed) int {
	if d.Day < 0 || d.Day > r.Last || len(l) > 0 && d.Day < l[len(l)-1].Day {
		return 1
	}
	if d.Act < 0 || d.Act >= len(r.Acts) || modelDone(l, d.Act) || !r.Acts[d.Act].Extra && modelSettled(r, l, d.Act) {
		return 2
	}
	a := r.Acts[d.Act]
	if d.Day < a.From || d.Day > a.To {
		return 3
	}
	for _, need := range a.Needs {
		if !modelSettled(r, l, need) {
			return 4
		}
	}
	if !modelCalledFor(r, l, d) {
		return 5
	}
	deeds := 0
	for _, other := range l {
		if other.Day == d.Day {
			deeds++
		}
	}
	if deeds >= r.Toil {
		return 6
	}
	return 0
}

// modelCalledFor is the rule 5.
func modelCalledFor(r api.Rite, l []api.Deed, d api.Deed) bool {
	isSubstitute, isNeeded, isAtonement, isLate := false, false, false, false
	for act, a := range r.Acts {
		if slices.Contains(a.Instead, d.Act) {
			isSubstitute = true
			isNeeded = isNeeded || !modelSettled(r, l, act)
		}
		if a.Atone == d.Act {
			isAtonement = true
			isLate = isLate || modelForgotten(r, l, act, d.Day)
		}
	}
	return (!isSubstitute || isNeeded) && (!isAtonement || isLate) && (!r.Acts[d.Act].Extra || isSubstitute || isAtonement)
}

func modelJudge(r api.Rite, l []api.Deed) (at, rule int) {
	for i, d := range l {
		if rule := modelBroken(r, l[:i], d); rule != 0 {
			return i, rule
		}
	}
	return -1, 0
}

// modelThose returns the acts of a rite for which a condition is true.
func modelThose(r api.Rite, is func(act int) bool) []int {
	var l []int
	for act := range r.Acts {
		if is(act) {
			l = append(l, act)
		}
	}
	return l
}

func modelComplete(r api.Rite, l []api.Deed) bool {
	return len(modelThose(r, func(act int) bool { return !r.Acts[act].Extra && !modelSettled(r, l, act) })) == 0
}

// modelIsHopeless reports whether all acts of a set are as those of the set of hopeless acts should be.
func modelIsHopeless(r api.Rite, l []api.Deed, day int, set []int) bool {
	out := func(act int) bool { return !modelDone(l, act) && day > r.Acts[act].To }
	needs := func(act int) bool {
		return slices.ContainsFunc(r.Acts[act].Needs, func(need int) bool { return slices.Contains(set, need) })
	}
	for _, act := range set {
		a := r.Acts[act]
		if modelSettled(r, l, act) || !out(act) && !needs(act) {
			return false
		}
		for _, other := range a.Instead {
			if !out(other) && !needs(other) {
				return false
			}
		}
		if a.Atone != -1 && !out(a.Atone) && !needs(a.Atone) {
			return false
		}
	}
	return true
}

// modelHopeless goes through all sets of acts.
func modelHopeless(r api.Rite, l []api.Deed, day int) []int {
	var greatest []int
	for bits := range 1 << len(r.Acts) {
		set := modelThose(r, func(act int) bool { return bits>>act&1 == 1 })
		if len(set) > len(greatest) && modelIsHopeless(r, l, day, set) {
			greatest = set
		}
	}
	return greatest
}

// modelRepair goes through all lists of deeds, the shortest ones first, and of as many deeds the smallest ones first.
func modelRepair(r api.Rite, l []api.Deed, day int) ([]api.Deed, bool) {
	for n := range len(r.Acts) + 1 {
		if more, is := modelMore(r, l, day, n); is {
			return more, true
		}
	}
	return nil, false
}

// modelMore returns the smallest list of n deeds that complete the rite.
func modelMore(r api.Rite, l []api.Deed, day, n int) ([]api.Deed, bool) {
	if n == 0 {
		return nil, modelComplete(r, l)
	}
	for ; day <= r.Last; day++ {
		for act := range r.Acts {
			d := api.Deed{Day: day, Act: act}
			if modelBroken(r, l, d) != 0 {
				continue
			}
			if more, is := modelMore(r, joined(l, d), day, n-1); is {
				return joined([]api.Deed{d}, more...), true
			}
		}
	}
	return nil, false
}

// modelState is all of a course that matters for what can follow.
type modelState struct {
	done       [api.MaxActs]bool
	day, deeds int
}

func modelStateOf(l []api.Deed, day int) modelState {
	s := modelState{day: day}
	for _, d := range l {
		s.done[d.Act] = true
		if d.Day == day {
			s.deeds++
		}
	}
	return s
}

// modelCount returns the least number of deeds from a day on that complete a rite, and a great number if there is none; each day is waited for by itself.
func modelCount(r api.Rite, l []api.Deed, day int, known map[modelState]int) int {
	if modelComplete(r, l) {
		return 0
	}
	s := modelStateOf(l, day)
	if n, is := known[s]; is {
		return n
	}
	least := 1000
	if day < r.Last {
		least = modelCount(r, l, day+1, known)
	}
	for act := range r.Acts {
		if d := (api.Deed{Day: day, Act: act}); modelBroken(r, l, d) == 0 {
			least = min(least, 1+modelCount(r, joined(l, d), day, known))
		}
	}
	known[s] = least
	return least
}

// modelQuick returns the same as modelRepair, for rites of any size.
func modelQuick(r api.Rite, l []api.Deed, day int) ([]api.Deed, bool) {
	known := map[modelState]int{}
	left := modelCount(r, l, day, known)
	if left >= 1000 {
		return nil, false
	}
	var more []api.Deed
	for ; left > 0; left-- {
		d := modelNext(r, joined(l, more...), day, left, known)
		more, day = append(more, d), d.Day
	}
	return more, true
}

// modelNext returns the first deed after which one deed less is left.
func modelNext(r api.Rite, l []api.Deed, day, left int, known map[modelState]int) api.Deed {
	for ; day <= r.Last; day++ {
		for act := range r.Acts {
			d := api.Deed{Day: day, Act: act}
			if modelBroken(r, l, d) == 0 && modelCount(r, joined(l, d), day, known) == left-1 {
				return d
			}
		}
	}
	panic("no deed")
}
