package kiln

import (
	"slices"

	"chiti/api"
)

// Loads returns the load on each brick, and on each cell of the floor.
func Loads(s api.Stack) (bricks [][]api.Load, floor []api.Load, e api.Errno) {
	if e := CheckStack(s); e != api.OK {
		return nil, nil, e
	}
	return stack{s}.loads()
}

// Crushed returns the first brick whose load is greater than what it bears.
func Crushed(s api.Stack, bears []int) (api.StackBrick, api.Errno) {
	switch e := CheckStack(s); {
	case e != api.OK:
		return api.StackBrick{}, e
	case len(bears) != len(s.Tiers):
		return api.StackBrick{}, api.ErrForm
	case !areWithin(0, api.MaxStrength, bears...):
		return api.StackBrick{}, api.ErrRange
	}
	valid := stack{s}
	loads, _, e := valid.loads()
	if e != api.OK {
		return api.StackBrick{}, e
	}
	return valid.first(func(b api.StackBrick) bool {
		load := loads[b.Tier][b.Brick]
		return load.Num > bears[b.Tier]*count(valid.cells(b))*load.Den
	}), api.OK
}

// loads returns the load on each brick, and on each cell of the floor.
func (s stack) loads() (bricks [][]api.Load, floor []api.Load, e api.Errno) {
	if s.hanging() != nowhere() {
		return nil, nil, api.ErrFalls
	}
	bricks = make([][]api.Load, len(s.Tiers))
	pressed := s.unloaded()
	for tier := range slices.Backward(s.Tiers) {
		if bricks[tier], pressed, e = s.passOn(tier, pressed); e != api.OK {
			return nil, nil, e
		}
	}
	return bricks, pressed, api.OK
}

// unloaded returns what presses on each cell below a tier if nothing does.
func (s stack) unloaded() []api.Load {
	return slices.Repeat([]api.Load{{Den: 1}}, s.Width*s.Height)
}

// passOn returns the loads on the bricks of a tier by what presses on its cells, and what presses on the cells below it.
func (s stack) passOn(tier int, pressed []api.Load) (loads, below []api.Load, e api.Errno) {
	below = s.unloaded()
	for b := range s.tier(tier) {
		load := api.Load{Den: 1}
		for cell := range s.cells(b) {
			if load, e = plus(load, pressed[cell]); e != api.OK {
				return nil, nil, e
			}
		}
		each, e := s.pressing(b, load)
		if e != api.OK {
			return nil, nil, e
		}
		loads = append(loads, load)
		for cell := range s.rests(b) {
			below[cell] = each
		}
	}
	return loads, below, api.OK
}

// pressing returns what a brick with a load presses on each cell on which it rests.
func (s stack) pressing(b api.StackBrick, load api.Load) (api.Load, api.Errno) {
	all, e := plus(load, api.Load{Num: s.Tiers[b.Tier].Weights[b.Brick], Den: 1})
	if e != api.OK {
		return api.Load{}, e
	}
	return lowest(all.Num, all.Den*count(s.rests(b)))
}

func plus(a, b api.Load) (api.Load, api.Errno) {
	return lowest(a.Num*b.Den+b.Num*a.Den, a.Den*b.Den)
}

// lowest returns a load in lowest terms; ErrOver if these are too great.
func lowest(num, den int) (api.Load, api.Errno) {
	common, rest := num, den
	for rest != 0 {
		common, rest = rest, common%rest
	}
	l := api.Load{Num: num / common, Den: den / common}
	if max(l.Num, l.Den) > api.MaxLoad {
		return api.Load{}, api.ErrOver
	}
	return l, api.OK
}
