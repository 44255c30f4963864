package song

import "chiti/api"

// Count returns in how many ways a line of a metre can be filled.
func Count(l api.MetreLine) (int, api.Errno) {
	if !isMetreLine(l) {
		return 0, api.ErrArg
	}
	return counterOf(l).ways(place{}), api.OK
}

// Nth returns the way with a number to fill a line of a metre.
func Nth(l api.MetreLine, number int) (string, api.Errno) {
	if !isMetreLine(l) {
		return "", api.ErrArg
	}
	c := counterOf(l)
	if !isWithin(number, 0, c.ways(place{})-1) {
		return "", api.ErrNone
	}
	return c.nth(number), api.OK
}

// Rank returns the number of a way to fill a line of a metre.
func Rank(l api.MetreLine, way string) (int, api.Errno) {
	switch {
	case !isMetreLine(l):
		return 0, api.ErrArg
	case len(way) != len(l.Pattern) || !isSpelled(way, string(light), string(heavy)):
		return 0, api.ErrForm
	case unlike(l, way) != nowhere:
		return 0, api.ErrNone
	}
	return counterOf(l).rank(way), api.OK
}

// place is how far a line is filled: with how many syllables, and how many units they have.
type place struct{ syllables, units int }

// after returns the place behind one more syllable.
func (p place) after(weight byte) place {
	return place{syllables: p.syllables + 1, units: p.units + unitsOf(string(weight))}
}

// counter counts in how many ways a valid line of a metre can be filled.
type counter struct {
	api.MetreLine
	known map[place]int // the ways from some places on
}

func counterOf(l api.MetreLine) counter { return counter{MetreLine: l, known: map[place]int{}} }

// ways returns in how many ways the line can be filled from a place on.
func (c counter) ways(p place) (n int) {
	if p.syllables == len(c.Pattern) {
		return c.waysAtEnd(p)
	}
	if n, isKnown := c.known[p]; isKnown {
		return n
	}
	defer func() { c.known[p] = n }()
	return c.waysWith(p, heavy) + c.waysWith(p, light)
}

// waysAtEnd returns 1 if the syllables that fill the line have the units that they must have, and 0 if not.
func (c counter) waysAtEnd(p place) int {
	if hasUnits(c.MetreLine, p.units) {
		return 1
	}
	return 0
}

// waysWith returns in how many ways the line can be filled from a place on if the next syllable has a weight.
func (c counter) waysWith(p place, weight byte) int {
	if !admits(c.Pattern[p.syllables], weight) {
		return 0
	}
	return c.ways(p.after(weight))
}

// nth returns the way with a number; there must be one.
func (c counter) nth(number int) string {
	var way []byte
	at := place{}
	for range len(c.Pattern) {
		weight := byte(heavy)
		if ahead := c.waysWith(at, heavy); number >= ahead {
			number -= ahead
			weight = light
		}
		way = append(way, weight)
		at = at.after(weight)
	}
	return string(way)
}

// rank returns how many ways are ahead of one: those that are like it up to a light syllable, and have a heavy one in its place.
func (c counter) rank(way string) int {
	number := 0
	at := place{}
	for syllable := range len(way) {
		if way[syllable] == light {
			number += c.waysWith(at, heavy)
		}
		at = at.after(way[syllable])
	}
	return number
}
