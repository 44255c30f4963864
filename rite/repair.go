package rite

import "chiti/api"

// never is more deeds than a course has, each of an act of its own.
const never = api.MaxActs + 1

// search looks for the fewest deeds that complete a rite.
type search struct {
	*book
	known map[moment]int // the fewest deeds from some moments on
}

func searchIn(b *book) *search { return &search{book: b, known: map[moment]int{}} }

// fewest returns how many deeds complete the rite from a moment on at least; never if none do.
func (s *search) fewest(m moment) int {
	if s.isComplete(m) {
		return 0
	}
	if n, isKnown := s.known[m]; isKnown {
		return n
	}
	least := never
	// Each act is done as soon as it can be: who has done the same acts sooner can wait, and then do the rest as well.
	for d := range s.soonest(m) {
		least = min(least, 1+s.fewest(m.after(d)))
	}
	s.known[m] = least
	return least
}

// soonest returns a function that yields each act that can be done next, on the first day on which it can.
func (s *search) soonest(m moment) func(yield func(d api.Deed) bool) {
	return func(yield func(d api.Deed) bool) {
		for act := range (s.all &^ m.done).acts {
			if d, canBe := s.first(m, act); canBe && !yield(d) {
				return
			}
		}
	}
}

// first returns the deed of an act on the first day on which it can be done.
func (s *search) first(m moment, act int) (d api.Deed, canBe bool) {
	for day := max(m.day, s.Acts[act].From); day <= s.Acts[act].To; day++ {
		if s.isOpen(m.on(day), act) {
			return api.Deed{Day: day, Act: act}, true
		}
	}
	return api.Deed{}, false
}

// deeds returns a function that yields all deeds that can be done next, in their order.
func (s *search) deeds(m moment) func(yield func(d api.Deed) bool) {
	return func(yield func(d api.Deed) bool) {
		for day := m.day; day <= s.Last; day++ {
			for act := range s.those((*book).isOpen, m.on(day)).acts {
				if !yield(api.Deed{Day: day, Act: act}) {
					return
				}
			}
		}
	}
}

// repair returns the smallest list of the fewest deeds from a moment on; there must be one.
func (s *search) repair(m moment) []api.Deed {
	var l []api.Deed
	for left := s.fewest(m); left > 0; left-- {
		for d := range s.deeds(m) {
			if s.fewest(m.after(d)) == left-1 {
				l, m = append(l, d), m.after(d)
				break
			}
		}
	}
	return l
}
