package school

import "chiti/api"

// none is a reading that is lost, and the parent of the copy 0.
const none = -1

// impossible is more changes than there can be: it stands for a reading that a copy does not have.
const impossible = api.MaxCopies + 1

// Restore returns the readings of all copies with the fewest changes from copy to copy.
func Restore(parents, readings []int) (all []int, changes int, e api.Errno) {
	switch {
	case len(parents) > api.MaxCopies:
		return nil, 0, api.ErrLong
	case !areCopies(parents, readings):
		return nil, 0, api.ErrArg
	}
	// A copy has a greater number than its parent, so that the smallest list has the best reading of each copy in turn.
	for number, needed := range branchesOf(parents, readings) {
		if number == 0 {
			all = append(all, needed.best(none))
			continue
		}
		above := all[parents[number]]
		reading := needed.best(above)
		if reading != above {
			changes++
		}
		all = append(all, reading)
	}
	return all, changes, api.OK
}

func areCopies(parents, readings []int) bool {
	if len(parents) == 0 || len(parents) != len(readings) || parents[0] != none {
		return false
	}
	for number, reading := range readings {
		if number > 0 && !isWithin(parents[number], 0, number-1) || !isWithin(reading, none, api.MaxReading) {
			return false
		}
	}
	return true
}

// branch is, for each reading that a copy can have, the fewest changes among the copies that come from it.
type branch [api.MaxReading + 1]int

func branchesOf(parents, readings []int) []branch {
	needed := make([]branch, len(parents))
	for number, known := range readings {
		for reading := range needed[number] {
			if known != none && known != reading {
				needed[number][reading] = impossible
			}
		}
	}
	for number := len(parents) - 1; number > 0; number-- {
		above := &needed[parents[number]]
		for reading := range above {
			above[reading] += needed[number].changes(reading, needed[number].best(reading))
		}
	}
	return needed
}

// changes returns how many changes are needed for a reading of a copy, with its own if its parent has another one.
func (b branch) changes(above, reading int) int {
	if above == reading {
		return b[reading]
	}
	return b[reading] + 1
}

// best returns the smallest one of the readings of a copy that need the fewest changes if its parent has some reading.
func (b branch) best(above int) int {
	best := 0
	for reading := range b {
		if b.changes(above, reading) < b.changes(above, best) {
			best = reading
		}
	}
	return best
}
