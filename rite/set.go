package rite

import "chiti/api"

// set is a set of acts, by their numbers.
type set uint16

func setOf(acts ...int) set {
	var s set
	for _, act := range acts {
		s |= 1 << act
	}
	return s
}

func (s set) has(act int) bool { return s.meets(setOf(act)) }

func (s set) meets(other set) bool { return s&other != 0 }

// acts yields what is in the set, in ascending order.
func (s set) acts(yield func(act int) bool) {
	for act := range api.MaxActs {
		if s.has(act) && !yield(act) {
			return
		}
	}
}

// those returns the acts of the set for which a condition is true.
func (s set) those(is func(act int) bool) set {
	var some set
	for act := range s.acts {
		if is(act) {
			some |= setOf(act)
		}
	}
	return some
}
