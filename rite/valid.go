package rite

import (
	"slices"

	"chiti/api"
)

// noAct stands for an atonement that there is not.
const noAct = -1

func isRite(r api.Rite) bool {
	return within(len(r.Acts), 1, api.MaxActs) &&
		within(r.Last, 0, api.MaxLast) &&
		within(r.Toil, 1, api.MaxToil) &&
		areActs(r) && !isOneForBoth(r)
}

func areActs(r api.Rite) bool {
	for number, a := range r.Acts {
		if !isAct(r, number) || named(r.Acts[:number], a.Name) != noAct {
			return false
		}
	}
	return true
}

// isAct reports whether an act is valid but for its name, which another one may have, too.
func isAct(r api.Rite, number int) bool {
	a := r.Acts[number]
	isOther := func(act int) bool { return act != number && within(act, 0, len(r.Acts)-1) }
	isExtra := func(act int) bool { return isOther(act) && r.Acts[act].Extra }
	return isName(a.Name) &&
		areAscending(a.Needs, isOther) && areAscending(a.Instead, isExtra) &&
		(a.Atone == noAct || isExtra(a.Atone)) &&
		0 <= a.From && a.From <= a.To && a.To <= r.Last
}

// isOneForBoth reports whether a valid act is a substitute, and an atonement, too.
func isOneForBoth(r api.Rite) bool {
	var substitutes, atonements set
	for _, a := range r.Acts {
		substitutes |= setOf(a.Instead...)
		atonements |= setOf(atoning(a)...)
	}
	return substitutes.meets(atonements)
}

// atoning returns the atonement of an act, if there is one.
func atoning(a api.Act) []int {
	if a.Atone == noAct {
		return nil
	}
	return []int{a.Atone}
}

// areAscending reports whether a list is one of strictly ascending numbers for which a condition is true.
func areAscending(l []int, is func(act int) bool) bool {
	for i, act := range l {
		if !is(act) || i > 0 && l[i-1] >= act {
			return false
		}
	}
	return true
}

// named returns the number of the act with a name, and noAct if there is none.
func named(acts []api.Act, name string) int {
	return slices.IndexFunc(acts, func(a api.Act) bool { return a.Name == name })
}

func isName(s string) bool {
	for _, c := range []byte(s) {
		if c < 'a' || c > 'z' {
			return false
		}
	}
	return within(len(s), 1, api.MaxWord)
}

func within(n, low, high int) bool { return low <= n && n <= high }
