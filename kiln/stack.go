package kiln

import (
	"slices"

	"chiti/api"
)

// empty is the number at a cell at which there is no brick.
const empty = -1

// CheckStack returns the error of a stack.
func CheckStack(s api.Stack) api.Errno {
	isBad := func(t api.Tier) bool { return !isTier(t, s.Width*s.Height) }
	if !areWithin(1, api.MaxPad, s.Width, s.Height) || len(s.Tiers) > api.MaxTiers || slices.ContainsFunc(s.Tiers, isBad) {
		return api.ErrArg
	}
	return api.OK
}

// Hangs returns the first brick under which there is none.
func Hangs(s api.Stack) (api.StackBrick, api.Errno) {
	if e := CheckStack(s); e != api.OK {
		return api.StackBrick{}, e
	}
	return stack{s}.hanging(), api.OK
}

// Free returns the bricks on which nothing lies.
func Free(s api.Stack) ([]api.StackBrick, api.Errno) {
	if e := CheckStack(s); e != api.OK {
		return nil, e
	}
	var l []api.StackBrick
	valid := stack{s}
	for tier := range slices.Backward(s.Tiers) {
		for b := range valid.tier(tier) {
			if valid.isFree(b) {
				l = append(l, b)
			}
		}
	}
	return l, api.OK
}

// isTier reports whether a tier on so many cells is valid.
func isTier(t api.Tier, cells int) bool {
	if len(t.Cells) != cells || !areWithin(empty, len(t.Weights)-1, t.Cells...) || !areWithin(0, api.MaxHeft, t.Weights...) {
		return false
	}
	isSeen := map[int]bool{}
	for _, brick := range t.Cells {
		if brick != empty {
			isSeen[brick] = true
		}
	}
	return len(isSeen) == len(t.Weights)
}

// stack is a valid stack.
type stack struct{ api.Stack }

// tier yields the bricks of a tier by their numbers.
func (s stack) tier(tier int) func(yield func(b api.StackBrick) bool) {
	return func(yield func(b api.StackBrick) bool) {
		for brick := range s.Tiers[tier].Weights {
			if !yield(api.StackBrick{Tier: tier, Brick: brick}) {
				return
			}
		}
	}
}

// nowhere returns what is told if there is no such brick.
func nowhere() api.StackBrick { return api.StackBrick{Tier: -1, Brick: -1} }

// first returns the first brick for which a condition is true, tier by tier from the lowest one.
func (s stack) first(is func(b api.StackBrick) bool) api.StackBrick {
	for tier := range s.Tiers {
		for b := range s.tier(tier) {
			if is(b) {
				return b
			}
		}
	}
	return nowhere()
}

// hanging returns the first brick that rests on nothing.
func (s stack) hanging() api.StackBrick {
	return s.first(func(b api.StackBrick) bool { return count(s.rests(b)) == 0 })
}

// cells yields the cells of a brick.
func (s stack) cells(b api.StackBrick) func(yield func(cell int) bool) {
	return func(yield func(cell int) bool) {
		for cell, brick := range s.Tiers[b.Tier].Cells {
			if brick == b.Brick && !yield(cell) {
				return
			}
		}
	}
}

// rests yields the cells on which a brick rests.
func (s stack) rests(b api.StackBrick) func(yield func(cell int) bool) {
	return func(yield func(cell int) bool) {
		for cell := range s.cells(b) {
			isBorne := b.Tier == 0 || s.Tiers[b.Tier-1].Cells[cell] != empty
			if isBorne && !yield(cell) {
				return
			}
		}
	}
}

// isFree reports whether there is no brick of the next tier above a brick.
func (s stack) isFree(b api.StackBrick) bool {
	if b.Tier == len(s.Tiers)-1 {
		return true
	}
	for cell := range s.cells(b) {
		if s.Tiers[b.Tier+1].Cells[cell] != empty {
			return false
		}
	}
	return true
}

// count returns how many cells are yielded.
func count(cells func(yield func(cell int) bool)) int {
	n := 0
	for range cells {
		n++
	}
	return n
}
