package kiln_test

import (
	"fmt"
	"math"
	"slices"
	"testing"

	"chiti/api"
	"chiti/kiln"
)

func spread(low, high int) api.Spread { return api.Spread{Low: low, High: high} }

func clay(dryLow, dryHigh, fireLow, fireHigh int) api.Clay {
	return api.Clay{Dry: spread(dryLow, dryHigh), Fire: spread(fireLow, fireHigh)}
}

// stages returns stages by what is lost in each of them, at least and at most.
func stages(l ...int) []api.YardStage {
	var all []api.YardStage
	for i := 0; i < len(l); i += 2 {
		all = append(all, api.YardStage{Least: l[i], Most: l[i+1]})
	}
	return all
}

func batch(kind, n int) api.Batch { return api.Batch{Kind: kind, N: n} }

func batches(l ...api.Batch) []api.Batch { return l }

// book returns a new book.
func book(t *testing.T, room int, space ...int) *kiln.Book {
	t.Helper()
	b, e := kiln.New(space, room)
	if b == nil || e != api.OK {
		t.Fatal("no book:", room, space, e)
	}
	return b
}

func tier(cells []int, weights ...int) api.Tier { return api.Tier{Cells: cells, Weights: weights} }

func cells(l ...int) []int { return l }

// row returns a stack on a floor of one row.
func row(width int, tiers ...api.Tier) api.Stack {
	return api.Stack{Width: width, Height: 1, Tiers: tiers}
}

func load(num, den int) api.Load { return api.Load{Num: num, Den: den} }

func at(tier, brick int) api.StackBrick { return api.StackBrick{Tier: tier, Brick: brick} }

func nowhere() api.StackBrick { return at(-1, -1) }

func told(x any) string { return fmt.Sprintf("%+v", x) }

// same reports whether two results are told in the same way; a nil list and an empty one are.
func same(x, y any) bool { return told(x) == told(y) }

// pseudo returns a function that yields integers from 0 to below n, the same ones in every run.
func pseudo() func(n int) int {
	state := uint64(88172645463325252)
	return func(n int) int {
		state ^= state << 13
		state ^= state >> 7
		state ^= state << 17
		return int(state % uint64(n))
	}
}

func extremes() []int {
	return []int{
		math.MinInt, math.MinInt + 1, -1000000001, -10001, -2, -1, 0, 1, 2, 3, 9, 10, 11, 12, 13, 20, 21, 100,
		999, 1000, 1001, 9999, 10000, 10001, 999999, 1000000, 1000001, 999999999, 1000000000, 1000000001,
		1 << 31, 1 << 32, 1 << 60, 1 << 62, math.MaxInt - 1, math.MaxInt,
	}
}

// someSpread returns a spread with both ends from 0 to most.
func someSpread(next func(n int) int, most int) api.Spread {
	a, b := next(most+1), next(most+1)
	return spread(min(a, b), max(a, b))
}

// someClay returns a clay; one time in three it shrinks little, and one time in three by nearly all of it.
func someClay(next func(n int) int) api.Clay {
	most := []int{9999, 1500, 3}[next(3)]
	c := api.Clay{Dry: someSpread(next, most), Fire: someSpread(next, most)}
	if most == 3 && next(2) == 0 {
		for _, s := range []*api.Spread{&c.Dry, &c.Fire} {
			s.Low, s.High = 9999-s.High, 9999-s.Low
		}
	}
	return c
}

func someStages(next func(n int) int, count int) []api.YardStage {
	var l []api.YardStage
	for range next(count + 1) {
		s := someSpread(next, []int{10000, 2000, 300}[next(3)])
		l = append(l, api.YardStage{Least: s.Low, Most: s.High})
	}
	return l
}

// someStack returns a valid stack with up to so many tiers, on a floor of up to size times size cells.
func someStack(next func(n int) int, size, tiers int) api.Stack {
	s := api.Stack{Width: 1 + next(size), Height: 1 + next(size)}
	for range next(tiers + 1) {
		s.Tiers = append(s.Tiers, someTier(next, s.Width*s.Height, 1+next(s.Width*s.Height)))
	}
	return s
}

// someTier returns a tier with up to so many bricks; mostly few of its cells are empty.
func someTier(next func(n int) int, count, bricks int) api.Tier {
	t := api.Tier{Cells: make([]int, count)}
	empty := []int{0, 0, 1, 2, 8}[next(5)]
	numbers := map[int]int{}
	for i := range t.Cells {
		t.Cells[i] = -1
		if next(8) < empty {
			continue
		}
		brick := next(bricks)
		if _, isThere := numbers[brick]; !isThere {
			numbers[brick] = len(t.Weights)
			t.Weights = append(t.Weights, []int{0, 1, next(10), next(1001), 1000}[next(5)])
		}
		t.Cells[i] = numbers[brick]
	}
	return t
}

// standing returns a valid stack in which no brick rests on nothing.
func standing(next func(n int) int, size, tiers int) api.Stack {
	for {
		s := someStack(next, size, tiers)
		if b := modelHangs(s); b == nowhere() {
			return s
		}
	}
}

// deep returns a stack of many tiers in which no brick rests on nothing.
func deep(next func(n int) int) api.Stack {
	s := api.Stack{Width: 4 + next(9), Height: 4 + next(9)}
	count := s.Width * s.Height
	for tiers := 4 + next(7); len(s.Tiers) < tiers; {
		higher := s
		higher.Tiers = append(slices.Clip(s.Tiers), someTier(next, count, 1+next(count/3)))
		if modelHangs(higher) == nowhere() {
			s = higher
		}
	}
	return s
}

// without returns a stack without the bricks for which a condition is true; the others get new numbers.
func without(s api.Stack, is func(b api.StackBrick) bool) api.Stack {
	var tiers []api.Tier
	for k, old := range s.Tiers {
		t := api.Tier{Cells: slices.Repeat([]int{-1}, len(old.Cells))}
		for brick, weight := range old.Weights {
			if is(at(k, brick)) {
				continue
			}
			for _, cell := range modelCells(s, at(k, brick)) {
				t.Cells[cell] = len(t.Weights)
			}
			t.Weights = append(t.Weights, weight)
		}
		tiers = append(tiers, t)
	}
	s.Tiers = tiers
	return s
}

// laid is a brick of a tower, with the cells on which it rests.
type laid struct {
	weight       int
	cells, rests []int
}

// whole returns a brick that rests on all of its cells.
func whole(weight int, cells ...int) laid { return laid{weight, cells, cells} }

// tower returns a stack on 12 times 12 cells of bricks, the highest tier first; below cells on which one rests there are bricks on one cell without a weight, unless there is another one.
func tower(tiers ...[]laid) api.Stack {
	s := api.Stack{Width: 12, Height: 12, Tiers: make([]api.Tier, len(tiers))}
	var wanted []int
	for i, bricks := range tiers {
		t := api.Tier{Cells: slices.Repeat([]int{-1}, 144)}
		var rests []int
		put := func(b laid) {
			for _, cell := range b.cells {
				t.Cells[cell] = len(t.Weights)
			}
			t.Weights = append(t.Weights, b.weight)
			rests = append(rests, b.rests...)
		}
		for _, b := range bricks {
			put(b)
		}
		for _, cell := range wanted {
			if t.Cells[cell] < 0 {
				put(whole(0, cell))
			}
		}
		wanted = rests
		s.Tiers[len(tiers)-1-i] = t
	}
	return s
}

// chain returns bricks, one for each weight, the highest one first: each rests on so many cells, and passes what it presses on one of them, the first cell, to the next one.
func chain(first, behind, on int, weights ...int) [][]laid {
	var tiers [][]laid
	for _, weight := range weights {
		all := cells(first)
		for range on - 1 {
			all = append(all, behind)
			behind++
		}
		tiers = append(tiers, []laid{whole(weight, all...)})
	}
	return tiers
}

// joined returns tiers with the bricks of both lists of tiers.
func joined(a, b [][]laid) [][]laid {
	var all [][]laid
	for i := range max(len(a), len(b)) {
		var bricks []laid
		if i < len(a) {
			bricks = append(bricks, a[i]...)
		}
		if i < len(b) {
			bricks = append(bricks, b[i]...)
		}
		all = append(all, bricks)
	}
	return all
}
