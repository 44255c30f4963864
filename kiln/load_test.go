package kiln_test

import (
	"math/big"
	"slices"
	"testing"

	"chiti/api"
	"chiti/kiln"
)

// loads returns whole numbers as loads.
func loads(l ...int) []api.Load {
	var all []api.Load
	for _, n := range l {
		all = append(all, load(n, 1))
	}
	return all
}

// P8.10: the loads on bricks, and on the floor.
func TestLoads(t *testing.T) {
	third := load(1, 3)
	for i, c := range []struct {
		s      api.Stack
		bricks [][]api.Load
		floor  []api.Load
	}{
		{example(), [][]api.Load{loads(2, 2), loads(0)}, loads(5, 7)},
		{bridge(), [][]api.Load{{load(13, 2), load(13, 2)}, loads(7), loads(0, 0)}, []api.Load{load(15, 2), load(0, 1), load(17, 2)}},
		{ledge(), [][]api.Load{loads(5), loads(0)}, loads(0, 12, 0)},
		{apart(), [][]api.Load{loads(0, 3), loads(0, 0)}, []api.Load{load(3, 2), load(7, 2), load(7, 2), load(3, 2)}},
		{row(2), nil, loads(0, 0)},
		{row(2, tier(cells(-1, -1))), [][]api.Load{nil}, loads(0, 0)},
		{row(2, tier(cells(-1, -1)), tier(cells(-1, -1))), [][]api.Load{nil, nil}, loads(0, 0)},
		{row(1, tier(cells(0), 0)), [][]api.Load{loads(0)}, loads(0)},
		{row(2, tier(cells(1, 0), 3, 4)), [][]api.Load{loads(0, 0)}, loads(4, 3)},
		{row(4, tier(cells(0, 0, 0, 0), 6)), [][]api.Load{loads(0)}, []api.Load{load(3, 2), load(3, 2), load(3, 2), load(3, 2)}},
		{row(3, tier(cells(0, 1, 2), 1, 1, 1), tier(cells(0, 0, 0), 1)), [][]api.Load{{third, third, third}, loads(0)}, []api.Load{load(4, 3), load(4, 3), load(4, 3)}},
		{row(3, tier(cells(0, 0, 0), 2), tier(cells(0, 0, 0), 1)), [][]api.Load{loads(1), loads(0)}, loads(1, 1, 1)},
		{row(3, tier(cells(0, 1, -1), 1, 1), tier(cells(0, 0, 0), 1)), [][]api.Load{{load(1, 2), load(1, 2)}, loads(0)}, []api.Load{load(3, 2), load(3, 2), load(0, 1)}},
		// What lies above a part of a brick that is in the air presses on the whole brick.
		{row(3, tier(cells(0, -1, -1), 1), tier(cells(0, 0, 0), 1), tier(cells(-1, -1, 0), 9)), [][]api.Load{loads(10), loads(9), loads(0)}, loads(11, 0, 0)},
		{filled(12, 12, 2), [][]api.Load{loads(1), loads(0)}, slices.Repeat([]api.Load{load(1, 72)}, 144)},
	} {
		l, floor, e := kiln.Loads(c.s)
		if !slices.EqualFunc(l, c.bricks, slices.Equal[[]api.Load]) || !slices.Equal(floor, c.floor) || e != api.OK {
			t.Error(i, c.s, l, floor, e)
		}
	}
}

// falls are stacks in which a brick rests on nothing.
func falls() []api.Stack {
	return []api.Stack{
		hung(),
		row(2, tier(cells(0, -1), 1), tier(cells(0, 1), 1, 1)),
		row(2, tier(cells(-1, -1)), tier(cells(-1, 0), 0)),
		row(2, tier(cells(0, 0), 1), tier(cells(-1, 0), 1), tier(cells(0, -1), 1)),
		fineAndHung(),
	}
}

// P8.10, P8.11: the errors of Loads come behind those of Crushed, and ErrFalls ahead of ErrOver.
func TestFalls(t *testing.T) {
	for i, s := range falls() {
		l, floor, e := kiln.Loads(s)
		if l != nil || floor != nil || e != api.ErrFalls {
			t.Error(i, l, floor, e)
		}
		if b, e := kiln.Crushed(s, make([]int, len(s.Tiers))); b != at(0, 0) || e != api.ErrFalls {
			t.Error(i, b, e)
		}
		if b, e := kiln.Crushed(s, slices.Repeat([]int{-1}, len(s.Tiers))); b != at(0, 0) || e != api.ErrRange {
			t.Error(i, b, e)
		}
	}
}

// fine is a stack of a chain of bricks on ten cells each: what presses on its lowest cell has the denominator 10 to the power of its tiers.
func fine(tiers int) api.Stack {
	return tower(chain(0, 1, 10, append([]int{1}, make([]int, tiers-1)...)...)...)
}

// fineAndHung is one whose loads would be too fine, with a brick that rests on nothing.
func fineAndHung() api.Stack {
	s := fine(10)
	second := &s.Tiers[1]
	second.Cells[143] = len(second.Weights)
	second.Weights = append(second.Weights, 1)
	return s
}

// heavy is a stack with a chain of bricks on nine cells each, and others whose weights are added, on one brick with some weight: its load is the fraction / 9^5 and these weights, and it rests on some of its cells.
func heavy(fraction, others, weight, rests int) api.Stack {
	// The digits of the fraction in base 9, the last one on the highest brick.
	var weights []int
	for range 5 {
		weights = append(weights, fraction%9)
		fraction /= 9
	}
	tiers := chain(0, 1, 9, weights...)
	last := len(tiers) - 1
	all := cells(0)
	for i := 0; others > 0; i++ {
		one := min(others, 1000)
		tiers[last] = append(tiers[last], whole(one, 100+i))
		all = append(all, 100+i)
		others -= one
	}
	tiers = append(tiers, []laid{{weight, all, all[:rests]}})
	return tower(append(tiers, nil)...)
}

// halves is a stack in which 1/2^15, twice, and 1/3^10 are added in some order: only 2/2^15 and 1/3^10 have a small denominator together.
func halves(first, second int) api.Stack {
	two, three := chain(0, 10, 8, 1, 0, 0, 0, 0), chain(second, 60, 9, 1, 0, 0, 0, 0)
	two[4][0].cells[1] = first
	return tower(append(joined(two, three), []laid{{0, cells(0, first, second), cells(0)}}, nil)...)
}

// P8.10: numerators and denominators up to MaxLoad, in all that is computed.
func TestTooGreat(t *testing.T) {
	for i, c := range []struct {
		s    api.Stack
		over string
	}{
		{fine(9), ""},
		{fine(10), "press"},
		{heavy(5185, 16935, 0, 1), ""},
		{heavy(5186, 16935, 0, 1), "load"},
		{heavy(5184, 16935, 0, 1), ""},
		{heavy(5185, 16934, 1, 1), ""},
		{heavy(5185, 16935, 1, 1), "sum"},
		{heavy(5186, 16934, 1, 1), "sum"},
		// The sum is divided by 11, and would be small enough then.
		{heavy(5185, 16935, 1, 11), "sum"},
		{heavy(5185, 16935, 0, 2), ""},
		{halves(3, 4), ""},
		{halves(4, 3), "load"},
	} {
		m := modelLoadsOf(c.s)
		l, floor, e := kiln.Loads(c.s)
		b, f := kiln.Crushed(c.s, slices.Repeat([]int{1000000}, len(c.s.Tiers)))
		if m.over != c.over || modelHangs(c.s) != nowhere() {
			t.Error("another stack:", i, m.over, modelHangs(c.s), m.bricks)
		}
		if c.over != "" {
			if e != api.ErrOver || f != api.ErrOver || l != nil || floor != nil || b != at(0, 0) {
				t.Error(i, l, floor, e, b, f)
			}
			continue
		}
		if e != api.OK || f != api.OK || b != nowhere() || !slices.Equal(floor, loadsOf(m.floor)) {
			t.Error(i, l, floor, e, b, f)
		}
	}
}

// P8.10, P8.11: loads and what is crushed are those of the model.
func TestLoadsByModel(t *testing.T) {
	next := pseudo()
	over, crushed := 0, 0
	for i := range 3000 {
		size := 3
		if i%4 == 0 {
			size = 12
		}
		s := standing(next, size, []int{3, 10}[next(2)])
		if i%5 == 0 {
			s = deep(next)
		}
		m := modelLoadsOf(s)
		l, floor, e := kiln.Loads(s)
		bears := make([]int, len(s.Tiers))
		for k := range bears {
			bears[k] = next([]int{10, 1000, 100000}[next(3)])
		}
		b, f := kiln.Crushed(s, bears)
		if m.over != "" {
			over++
			if e != api.ErrOver || f != api.ErrOver || l != nil || floor != nil || b != at(0, 0) {
				t.Error(s, l, floor, e, b, f)
			}
			continue
		}
		equal := func(a []api.Load, b []*big.Rat) bool { return slices.Equal(a, loadsOf(b)) }
		if !slices.EqualFunc(l, m.bricks, equal) || !equal(floor, m.floor) || e != api.OK {
			t.Error(s, l, floor, e)
		}
		if want := modelCrushed(m, bears); b != want || f != api.OK {
			t.Error(s, bears, b, f, want)
		}
		if b != nowhere() {
			crushed++
		}
	}
	if over < 100 || over > 1000 || crushed < 300 {
		t.Error("only so many:", over, crushed)
	}
}

// P8.11: the first brick that bears less than its load.
func TestCrushed(t *testing.T) {
	for i, c := range []struct {
		s     api.Stack
		bears []int
		want  api.StackBrick
	}{
		{example(), []int{2, 0}, nowhere()},
		{example(), []int{1, 0}, at(0, 0)},
		{example(), []int{1000000, 1000000}, nowhere()},
		{bridge(), []int{6, 9, 0}, at(0, 0)},
		{bridge(), []int{7, 2, 0}, at(1, 0)},
		{bridge(), []int{7, 3, 0}, nowhere()},
		{bridge(), []int{6, 2, 0}, at(0, 0)},
		{bridge(), []int{0, 0, 0}, at(0, 0)},
		// All of its cells count, also those on which it does not rest, and on which nothing lies.
		{row(3, tier(cells(0, -1, -1), 1), tier(cells(0, 0, 0), 1), tier(cells(-1, -1, 0), 9)), []int{10, 3, 0}, nowhere()},
		{row(3, tier(cells(0, -1, -1), 1), tier(cells(0, 0, 0), 1), tier(cells(-1, -1, 0), 9)), []int{10, 2, 0}, at(1, 0)},
		{row(3, tier(cells(0, -1, -1), 1), tier(cells(0, 0, 0), 1), tier(cells(-1, -1, 0), 9)), []int{9, 2, 0}, at(0, 0)},
		// Its own weight is not in the load.
		{row(1, tier(cells(0), 1000)), []int{0}, nowhere()},
		{row(2, tier(cells(0, 1), 1, 1), tier(cells(-1, 0), 3)), []int{2, 0}, at(0, 1)},
		{row(2, tier(cells(0, 1), 1, 1), tier(cells(-1, 0), 3)), []int{3, 0}, nowhere()},
		{row(1), nil, nowhere()},
		{row(2, tier(cells(-1, -1))), []int{0}, nowhere()},
	} {
		if b, e := kiln.Crushed(c.s, c.bears); b != c.want || e != api.OK {
			t.Error(i, c.s, c.bears, b, e)
		}
	}
}

// P8.11: errors in their order.
func TestStrengths(t *testing.T) {
	bad := row(2, tier(cells(0, 5), 1))
	for i, c := range []struct {
		s     api.Stack
		bears []int
		e     api.Errno
	}{
		{bad, nil, api.ErrArg},
		{bad, []int{-1}, api.ErrArg},
		{example(), nil, api.ErrForm},
		{example(), []int{}, api.ErrForm},
		{example(), []int{-1}, api.ErrForm},
		{example(), []int{1, 1, -1}, api.ErrForm},
		{row(1), []int{0}, api.ErrForm},
		{hung(), []int{1, 1}, api.ErrForm},
		{example(), []int{-1, 0}, api.ErrRange},
		{example(), []int{0, 1000001}, api.ErrRange},
		{hung(), []int{1, 1, -1}, api.ErrRange},
		{fine(10), slices.Repeat([]int{-1}, 10), api.ErrRange},
		{fine(10), make([]int, 9), api.ErrForm},
		{fine(10), make([]int, 10), api.ErrOver},
		{hung(), []int{0, 0, 1000000}, api.ErrFalls},
	} {
		if b, e := kiln.Crushed(c.s, c.bears); b != at(0, 0) || e != c.e {
			t.Error(i, c.bears, b, e)
		}
	}
	for _, n := range extremes() {
		want := api.ErrRange
		if 0 <= n && n <= 1000000 {
			want = api.OK
		}
		if _, e := kiln.Crushed(example(), []int{n, 7}); e != want {
			t.Error(n, e)
		}
	}
}

// weightOf returns the weight of all bricks of a stack.
func weightOf(s api.Stack) int {
	sum := 0
	for _, t := range s.Tiers {
		for _, weight := range t.Weights {
			sum += weight
		}
	}
	return sum
}

// noGreater tests that the loads on the bricks of a stack are none greater than those of another one, by the cells of the bricks.
func noGreater(t *testing.T, s, other api.Stack) {
	t.Helper()
	l, _, e := kiln.Loads(s)
	greater, _, f := kiln.Loads(other)
	if e != api.OK || f != api.OK {
		if e != api.ErrOver && f != api.ErrOver {
			t.Error(s, other, e, f)
		}
		return
	}
	for tier := range s.Tiers {
		for cell, brick := range s.Tiers[tier].Cells {
			if brick < 0 {
				continue
			}
			a, b := l[tier][brick], greater[tier][other.Tiers[tier].Cells[cell]]
			if fraction(a.Num, a.Den).Cmp(fraction(b.Num, b.Den)) > 0 {
				t.Error("greater", s, other, tier, brick, a, b)
			}
		}
	}
}

// P8.16: the floor bears the weight of all bricks, less bricks make no greater loads, and free bricks have none.
func TestLawsOfLoads(t *testing.T) {
	next := pseudo()
	tried := 0
	for range 1500 {
		s := standing(next, 4, 6)
		l, floor, e := kiln.Loads(s)
		if e != api.OK {
			continue
		}
		tried++
		sum := new(big.Rat)
		for _, x := range floor {
			sum.Add(sum, fraction(x.Num, x.Den))
		}
		if sum.Cmp(fraction(weightOf(s), 1)) != 0 {
			t.Error(s, floor, sum)
		}
		free, _ := kiln.Free(s)
		for _, b := range free {
			if l[b.Tier][b.Brick] != load(0, 1) {
				t.Error(s, b, l)
			}
		}
		noGreater(t, without(s, func(b api.StackBrick) bool { return slices.Contains(free, b) }), s)
		noGreater(t, without(s, func(b api.StackBrick) bool { return slices.Contains(free, b) && next(2) == 0 }), s)
		lower := s
		lower.Tiers = s.Tiers[:next(len(s.Tiers)+1)]
		noGreater(t, lower, s)
	}
	if tried < 1000 {
		t.Error("only so many were tried:", tried)
	}
}
