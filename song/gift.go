package song

import (
	"cmp"
	"slices"

	"chiti/api"
)

// mostHerd is the greatest herd that there can be with borrowed cows.
const mostHerd = 2 * api.MaxHerd

// Gifts shares cows by weights.
func Gifts(cows int, weights []int) ([]int, api.Errno) {
	isBad := func(weight int) bool { return !isWithin(weight, 0, api.MaxShareOf) }
	switch {
	case len(weights) > api.MaxPriests:
		return nil, api.ErrLong
	case !isWithin(cows, 0, api.MaxHerd):
		return nil, api.ErrRange
	case slices.ContainsFunc(weights, isBad) || sum(weights...) == 0:
		return nil, api.ErrArg
	}
	return share(cows, weights), api.OK
}

// Whole returns the least herd of one cow or more of which all portions are whole cows.
func Whole(l []api.Portion) (int, api.Errno) {
	if e := checkPortions(l); e != api.OK {
		return 0, e
	}
	herd := wholeHerd(l)
	if herd > api.MaxHerd {
		return 0, api.ErrOver
	}
	return herd, api.OK
}

// Borrow returns how many cows must be borrowed so that portions are whole and just the borrowed ones are left, and the gifts.
func Borrow(cows int, l []api.Portion) (borrowed int, gifts []int, e api.Errno) {
	if e := checkPortions(l); e != api.OK {
		return 0, nil, e
	}
	if !isWithin(cows, 0, api.MaxHerd) {
		return 0, nil, api.ErrRange
	}
	herd := herdGiving(cows, l)
	if !isWithin(herd-cows, 0, api.MaxHerd) {
		return 0, nil, api.ErrNone
	}
	return herd - cows, portionsOf(herd, l), api.OK
}

// share shares cows by weights, of which one is above 0.
func share(cows int, weights []int) []int {
	all := sum(weights...)
	var gifts, order []int
	for priest, weight := range weights {
		gifts = append(gifts, cows*weight/all)
		order = append(order, priest)
	}
	lost := func(priest int) int { return cows * weights[priest] % all }
	slices.SortStableFunc(order, func(a, b int) int { return cmp.Compare(lost(b), lost(a)) })
	for _, priest := range order[:cows-sum(gifts...)] {
		gifts[priest]++
	}
	return gifts
}

func checkPortions(l []api.Portion) api.Errno {
	isBad := func(p api.Portion) bool { return !isWithin(p.Den, 1, api.MaxShareOf) || !isWithin(p.Num, 1, p.Den) }
	switch {
	case len(l) > api.MaxPriests:
		return api.ErrLong
	case slices.ContainsFunc(l, isBad):
		return api.ErrArg
	}
	return api.OK
}

// wholeHerd returns the least herd of one cow or more of which all portions are whole cows; if that is above mostHerd, another number above it.
func wholeHerd(l []api.Portion) int {
	herd := 1
	for _, p := range l {
		least := p.Den / divisor(p.Den, p.Num)
		herd *= least / divisor(herd, least)
		if herd > mostHerd {
			break
		}
	}
	return herd
}

// herdGiving returns the herd of which all portions are whole, and are some cows together; 0 if there is none, which is less than these cows.
func herdGiving(cows int, l []api.Portion) int {
	least := wholeHerd(l)
	if least > mostHerd {
		return 0
	}
	// All herds of which portions are whole are multiples of the least one, and their gifts of its gifts.
	given := sum(portionsOf(least, l)...)
	if given == 0 || cows%given != 0 {
		return 0
	}
	return cows / given * least
}

// portionsOf returns the portions of a herd of which they are whole.
func portionsOf(herd int, l []api.Portion) []int {
	var gifts []int
	for _, p := range l {
		gifts = append(gifts, herd*p.Num/p.Den)
	}
	return gifts
}

func sum(l ...int) int {
	all := 0
	for _, n := range l {
		all += n
	}
	return all
}

// divisor returns the greatest common divisor of two positive numbers.
func divisor(a, b int) int {
	for b != 0 {
		a, b = b, a%b
	}
	return a
}
