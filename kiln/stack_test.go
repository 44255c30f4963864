package kiln_test

import (
	"math"
	"slices"
	"testing"

	"chiti/api"
	"chiti/kiln"
)

// examples of stacks: that of the chapter, a bridge, a brick that is not on all of its cells, and one in two parts.
func example() api.Stack { return row(2, tier(cells(0, 1), 3, 5), tier(cells(0, 0), 4)) }

func bridge() api.Stack {
	return row(3, tier(cells(0, -1, 1), 1, 2), tier(cells(0, 0, 0), 6), tier(cells(-1, 0, 1), 5, 2))
}

func ledge() api.Stack { return row(3, tier(cells(-1, 0, -1), 7), tier(cells(0, 0, 0), 5)) }

func apart() api.Stack {
	return api.Stack{Width: 2, Height: 2, Tiers: []api.Tier{tier(cells(0, 1, 1, 0), 3, 4), tier(cells(-1, 0, 1, -1), 1, 2)}}
}

// hung has a brick that rests on nothing in its third tier, and two in its second one.
func hung() api.Stack {
	return row(4, tier(cells(0, 0, -1, -1), 1), tier(cells(-1, 0, 2, 1), 1, 1, 1), tier(cells(0, 1, 1, 2), 1, 1, 1))
}

// filled returns a stack of tiers of one brick each.
func filled(width, height, tiers int) api.Stack {
	return api.Stack{Width: width, Height: height, Tiers: slices.Repeat([]api.Tier{tier(make([]int, max(0, width*height)), 1)}, tiers)}
}

// numbered returns a tier with a brick on each cell.
func numbered(count int) api.Tier {
	var t api.Tier
	for i := range count {
		t.Cells, t.Weights = append(t.Cells, i), append(t.Weights, 1000)
	}
	return t
}

// checked tests whether a stack is valid in all functions with one, with the right strengths for it.
func checked(t *testing.T, s api.Stack, ok bool) {
	t.Helper()
	bears := slices.Repeat([]int{1000000}, len(s.Tiers))
	for name, o := range outcomes(s, bears) {
		if (o.e == api.ErrArg) == ok || !ok && o.results != o.zero {
			t.Error(name, s, o)
		}
	}
	if !ok {
		for name, o := range outcomes(s, []int{-1}) {
			if o.e != api.ErrArg {
				t.Error(name, s, o)
			}
		}
	}
}

// P8.9: which stacks are valid, also in all other functions.
func TestCheckStack(t *testing.T) {
	for _, s := range []api.Stack{
		example(), bridge(), ledge(), apart(), hung(),
		row(1), row(12), filled(12, 12, 0), filled(1, 12, 0), filled(12, 12, 1), filled(12, 12, 10), filled(3, 4, 10),
		row(2, tier(cells(-1, -1))), row(2, tier(cells(-1, -1), []int{}...)),
		row(2, tier(cells(1, 0), 0, 1000)),
		row(3, tier(cells(0, 1, 0), 0, 0)),
		{Width: 12, Height: 12, Tiers: []api.Tier{numbered(144), numbered(144)}},
	} {
		checked(t, s, true)
	}
	for _, s := range []api.Stack{
		{}, row(0), row(13), row(-1), {Width: 1}, {Width: 1, Height: 13}, {Width: 13, Height: 1}, {Width: 1, Height: -1}, {Width: -1, Height: -1},
		{Width: -1, Height: -2, Tiers: []api.Tier{tier(cells(0, 0), 1)}},
		{Width: 0, Height: 12, Tiers: []api.Tier{{}}},
		{Width: 1, Height: 13, Tiers: filled(1, 13, 1).Tiers},
		{Width: 13, Height: 1, Tiers: filled(1, 13, 1).Tiers},
		{Width: math.MaxInt, Height: math.MaxInt}, {Width: math.MinInt, Height: 2}, {Width: 1 << 32, Height: 1 << 32},
		filled(1, 1, 11), row(1, make([]api.Tier, 11)...),
		row(1, make([]api.Tier, 1)...),
		row(2, tier(cells(0), 1)), row(2, tier(cells(0, 0, 0), 1)), row(2, tier(nil, 1)), row(2, tier(nil)),
		{Width: 3, Height: 2, Tiers: []api.Tier{tier(cells(0, 0, 0), 1)}},
		row(2, tier(cells(0, -2), 1)), row(2, tier(cells(-2, -2))), row(2, tier(cells(0, 1), 1)), row(2, tier(cells(0, 2), 1, 1)),
		row(2, tier(cells(0, math.MaxInt), 1)), row(2, tier(cells(math.MinInt, 0), 1)), row(2, tier(cells(-1, 0))),
		row(2, tier(cells(0, 0), 1, 1)), row(2, tier(cells(1, 1), 1, 1)), row(2, tier(cells(-1, -1), 1)), row(2, tier(cells(0, -1), 1, 1)), row(2, tier(cells(0, 1), 1, 1, 1)),
		row(3, tier(cells(0, 2, 0), 1, 1, 1)), row(3, tier(cells(-1, 0, 1), 1, 1, 1)),
		row(2, tier(cells(0, 0), 1001)), row(2, tier(cells(0, 0), -1)), row(2, tier(cells(0, 1), 1, 1001)), row(2, tier(cells(0, 1), -1, 1)),
		row(2, tier(cells(0, 0), math.MaxInt)), row(2, tier(cells(0, 0), math.MinInt)),
		row(2, tier(cells(0, 0), 1), tier(cells(0, 0), 1), tier(cells(0, 0, 0), 1)),
		row(2, tier(cells(0, 0), 1001), tier(cells(0, 0), 1)),
		row(2, tier(cells(0, 0), 1), tier(cells(0, 0), 1, 1)),
		row(1, tier(cells(0), make([]int, 1<<18)...)),
	} {
		checked(t, s, false)
	}
}

// P8.9: the first brick that rests on nothing.
func TestHangs(t *testing.T) {
	for i, c := range []struct {
		s    api.Stack
		want api.StackBrick
	}{
		{example(), nowhere()}, {bridge(), nowhere()}, {ledge(), nowhere()}, {apart(), nowhere()}, {row(1), nowhere()},
		{filled(12, 12, 10), nowhere()},
		{hung(), at(1, 1)},
		{row(2, tier(cells(0, -1), 1), tier(cells(0, 1), 1, 1)), at(1, 1)},
		{row(2, tier(cells(0, -1), 1), tier(cells(1, 0), 1, 1)), at(1, 0)},
		{row(2, tier(cells(0, -1), 1), tier(cells(-1, 0), 1)), at(1, 0)},
		{row(2, tier(cells(-1, -1)), tier(cells(-1, 0), 1)), at(1, 0)},
		{row(2, tier(cells(-1, -1)), tier(cells(-1, -1)), tier(cells(1, 0), 1, 1)), at(2, 0)},
		{row(2, tier(cells(0, 0), 1), tier(cells(-1, 0), 1), tier(cells(0, -1), 1)), at(2, 0)},
		{row(2, tier(cells(0, 0), 1), tier(cells(-1, 0), 1), tier(cells(0, 0), 1)), nowhere()},
		{row(3, tier(cells(0, 0, -1), 1), tier(cells(0, 1, 2), 1, 1, 1), tier(cells(0, -1, -1), 1)), at(1, 2)},
		{api.Stack{Width: 2, Height: 2, Tiers: []api.Tier{tier(cells(0, -1, -1, -1), 1), tier(cells(-1, 0, 0, 0), 1)}}, at(1, 0)},
	} {
		if b, e := kiln.Hangs(c.s); b != c.want || e != api.OK {
			t.Error(i, c.s, b, e)
		}
	}
}

// P8.12: the bricks on which nothing lies, from the highest tier down.
func TestFree(t *testing.T) {
	for i, c := range []struct {
		s    api.Stack
		want []api.StackBrick
	}{
		{example(), []api.StackBrick{at(1, 0)}},
		{bridge(), []api.StackBrick{at(2, 0), at(2, 1)}},
		{ledge(), []api.StackBrick{at(1, 0)}},
		{apart(), []api.StackBrick{at(1, 0), at(1, 1), at(0, 0)}},
		{hung(), []api.StackBrick{at(2, 0), at(2, 1), at(2, 2)}},
		{row(1), nil},
		{row(2, tier(cells(-1, -1))), nil},
		{row(2, tier(cells(1, 0), 1, 1)), []api.StackBrick{at(0, 0), at(0, 1)}},
		{row(2, tier(cells(1, 0), 1, 1), tier(cells(-1, -1))), []api.StackBrick{at(0, 0), at(0, 1)}},
		{row(2, tier(cells(1, 0), 1, 1), tier(cells(0, -1), 1)), []api.StackBrick{at(1, 0), at(0, 0)}},
		{row(2, tier(cells(1, 0), 1, 1), tier(cells(0, -1), 1), tier(cells(-1, 0), 1)), []api.StackBrick{at(2, 0), at(1, 0), at(0, 0)}},
		{row(3, tier(cells(0, 1, 2), 1, 1, 1), tier(cells(0, -1, -1), 1), tier(cells(0, -1, -1), 1)), []api.StackBrick{at(2, 0), at(0, 1), at(0, 2)}},
		{row(3, tier(cells(0, 0, 1), 1, 1), tier(cells(-1, 0, -1), 1)), []api.StackBrick{at(1, 0), at(0, 1)}},
		{row(3, tier(cells(0, 0, 1), 1, 1), tier(cells(-1, -1, 0), 1)), []api.StackBrick{at(1, 0), at(0, 0)}},
	} {
		if l, e := kiln.Free(c.s); !slices.Equal(l, c.want) || e != api.OK {
			t.Error(i, c.s, l, e)
		}
	}
}

// P8.9, P8.12: Hangs and Free are those of the model.
func TestStacksByModel(t *testing.T) {
	next := pseudo()
	hanging := 0
	for i := range 4000 {
		size := 3
		if i%50 == 0 {
			size = 12
		}
		s := someStack(next, size, 4)
		b, e := kiln.Hangs(s)
		l, f := kiln.Free(s)
		if b != modelHangs(s) || !slices.Equal(l, modelFree(s)) || e != api.OK || f != api.OK || kiln.CheckStack(s) != api.OK {
			t.Error(s, b, l, e, f)
		}
		if b != nowhere() {
			hanging++
		}
	}
	if hanging < 500 || hanging > 3500 {
		t.Error("only so many:", hanging)
	}
}
