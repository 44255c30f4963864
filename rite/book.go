package rite

import "chiti/api"

// book is a rite that is valid, and what its acts are to each other.
type book struct {
	api.Rite
	all      set
	needs    [api.MaxActs]set // what each act needs
	settling [api.MaxActs]set // of which acts one settles each act
	replaced [api.MaxActs]set // of which acts each act is a substitute
	atoned   [api.MaxActs]set // of which acts each act is the atonement
}

// moment is how far a course has come: which acts are done, on which day it is, and how many deeds were done on this day.
type moment struct {
	done       set
	day, deeds int
}

// question is what can be asked of an act at a moment.
type question func(b *book, m moment, act int) bool

func bookOf(r api.Rite) *book {
	b := &book{Rite: r}
	for act, a := range r.Acts {
		b.all |= setOf(act)
		b.needs[act] = setOf(a.Needs...)
		b.settling[act] = setOf(act) | setOf(a.Instead...) | setOf(atoning(a)...)
		for _, other := range a.Instead {
			b.replaced[other] |= setOf(act)
		}
		for _, other := range atoning(a) {
			b.atoned[other] |= setOf(act)
		}
	}
	return b
}

// on returns the moment on a day that is not before its own.
func (m moment) on(day int) moment {
	if day == m.day {
		return m
	}
	return moment{done: m.done, day: day}
}

// after returns the moment after a deed that keeps the rules.
func (m moment) after(d api.Deed) moment {
	m = m.on(d.Day)
	m.done |= setOf(d.Act)
	m.deeds++
	return m
}

// those returns the acts of which a question is true.
func (b *book) those(is question, m moment) set {
	return b.all.those(func(act int) bool { return is(b, m, act) })
}

func (b *book) isSettled(m moment, act int) bool { return b.settling[act].meets(m.done) }

// isMissing reports whether an act must still be settled.
func (b *book) isMissing(m moment, act int) bool { return !b.Acts[act].Extra && !b.isSettled(m, act) }

func (b *book) isForgotten(m moment, act int) bool { return b.isMissing(m, act) && b.isOut(m, act) }

// isOut reports whether it is too late for an act that is not done.
func (b *book) isOut(m moment, act int) bool { return m.day > b.Acts[act].To }

func (b *book) isOpen(m moment, act int) bool {
	return b.broken(m, api.Deed{Day: m.day, Act: act}) == 0
}

func (b *book) isComplete(m moment) bool { return b.those((*book).isMissing, m) == 0 }

// hopeless returns the greatest set of acts that are not settled and wait for each other, or for what is out.
func (b *book) hopeless(m moment) set {
	lost := b.all &^ b.those((*book).isSettled, m)
	for {
		isBarred := func(act int) bool { return b.isOut(m, act) || b.needs[act].meets(lost) }
		// None of what would settle one of these acts is done.
		still := lost.those(func(act int) bool { return b.settling[act].those(isBarred) == b.settling[act] })
		if still == lost {
			return lost
		}
		lost = still
	}
}
