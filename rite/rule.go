package rite

import "chiti/api"

// broken returns the first one of the rules 1 to 6 that a deed breaks at a moment, and 0 if it keeps them.
func (b *book) broken(m moment, d api.Deed) int {
	// Each rule is asked only if those before it are kept: the later ones speak of days and acts that there are.
	rules := [...]func(b *book, m moment, d api.Deed) bool{
		(*book).isInOrder, (*book).isNew, (*book).isInTime, (*book).isPrepared, (*book).isCalledFor, (*book).hasRoom,
	}
	for i, isKept := range rules {
		if !isKept(b, m, d) {
			return i + 1
		}
	}
	return 0
}

func (b *book) isInOrder(m moment, d api.Deed) bool { return within(d.Day, m.day, b.Last) }

func (b *book) isNew(m moment, d api.Deed) bool {
	return within(d.Act, 0, len(b.Acts)-1) && !m.done.has(d.Act) && (b.Acts[d.Act].Extra || !b.isSettled(m, d.Act))
}

func (b *book) isInTime(m moment, d api.Deed) bool {
	return within(d.Day, b.Acts[d.Act].From, b.Acts[d.Act].To)
}

func (b *book) isPrepared(m moment, d api.Deed) bool {
	isWanted := func(act int) bool { return !b.isSettled(m, act) }
	return b.needs[d.Act].those(isWanted) == 0
}

// isCalledFor reports whether there is something to replace, or to atone for, if the act is an extra one: only these are substitutes or atonements, and none is both.
func (b *book) isCalledFor(m moment, d api.Deed) bool {
	isReplaced := func(act int) bool { return !b.isSettled(m, act) }
	isAtoned := func(act int) bool { return b.isForgotten(m.on(d.Day), act) }
	return !b.Acts[d.Act].Extra || b.replaced[d.Act].those(isReplaced) != 0 || b.atoned[d.Act].those(isAtoned) != 0
}

func (b *book) hasRoom(m moment, d api.Deed) bool { return m.on(d.Day).deeds < b.Toil }

// follow returns the moment after a course, and the first deed that breaks a rule, with this rule; -1 and 0 if the course is right.
func (b *book) follow(l []api.Deed) (m moment, at, rule int) {
	for i, d := range l {
		if rule := b.broken(m, d); rule != 0 {
			return moment{}, i, rule
		}
		m = m.after(d)
	}
	return m, -1, 0
}
