package kiln_test

import (
	"slices"
	"testing"

	"chiti/api"
	"chiti/kiln"
)

// outcome is what a call returned: everything but the error, as text, and the same for zero values.
type outcome struct {
	results, zero string
	e             api.Errno
}

func outcomeOf[T any](x T, e api.Errno) outcome {
	var zero T
	return outcome{told(x), told(zero), e}
}

func outcomeOfTwo[T, U any](x T, y U, e api.Errno) outcome {
	var zeroX T
	var zeroY U
	return outcome{told([]any{x, y}), told([]any{zeroX, zeroY}), e}
}

// outcomes calls all functions with a stack.
func outcomes(s api.Stack, bears []int) map[string]outcome {
	return map[string]outcome{
		"CheckStack": outcomeOf(0, kiln.CheckStack(s)),
		"Hangs":      outcomeOf(kiln.Hangs(s)),
		"Loads":      outcomeOfTwo(kiln.Loads(s)),
		"Crushed":    outcomeOf(kiln.Crushed(s, bears)),
		"Free":       outcomeOf(kiln.Free(s)),
	}
}

// others calls all other functions, and all methods of a new book, which may be nil.
func others(n, m int, c api.Clay, l []api.YardStage, space []int, deeds []api.Batch) map[string]outcome {
	b, e := kiln.New(space, m)
	isBook := outcomeOf(b != nil, e)
	all := map[string]outcome{
		"Shrunk":  outcomeOf(kiln.Shrunk(n, c)),
		"Moulds":  outcomeOf(kiln.Moulds(api.Spread{Low: n, High: m}, c)),
		"Left":    outcomeOf(kiln.Left(n, l)),
		"Need":    outcomeOf(kiln.Need(n, l)),
		"New":     isBook,
		"Mould":   outcomeOf(0, b.Mould(n, m)),
		"Dry":     outcomeOf(0, b.Dry(m, n, m)),
		"Fire":    outcomeOf(0, b.Fire(deeds)),
		"Draw":    outcomeOf(0, b.Draw(space)),
		"Lay":     outcomeOf(0, b.Lay(n, m)),
		"Break":   outcomeOf(0, b.Break(n, m)),
		"Replace": outcomeOf(0, b.Replace(m, n)),
		"Count":   outcomeOf(b.Count(n)),
	}
	return all
}

// P1: no function panics, whatever it is given, and with an error every other result is zero; the same call has the same result.
func TestWild(t *testing.T) {
	next := pseudo()
	integer := func() int { return extremes()[next(len(extremes()))] }
	integers := func() []int {
		var l []int
		for range next(5) {
			l = append(l, integer())
		}
		return l
	}
	ok := map[string]int{}
	for range 20000 {
		s := someStack(next, 4, 4)
		wild := []*int{&s.Width, &s.Height}
		for k := range s.Tiers {
			for i := range s.Tiers[k].Cells {
				wild = append(wild, &s.Tiers[k].Cells[i])
			}
			for i := range s.Tiers[k].Weights {
				wild = append(wild, &s.Tiers[k].Weights[i])
			}
		}
		if next(3) == 0 {
			*wild[next(len(wild))] = integer()
		}
		bears := make([]int, len(s.Tiers))
		if next(3) == 0 {
			bears = integers()
		}
		n, m, c, l, space := integer(), integer(), someClay(next), someStages(next, 3), integers()
		if next(3) == 0 {
			*[]*int{&c.Dry.Low, &c.Dry.High, &c.Fire.Low, &c.Fire.High}[next(4)] = integer()
			l = append(l, api.YardStage{Least: integer(), Most: integer()})
		}
		deeds := batches(batch(integer(), integer()), batch(integer(), integer()))[next(3):]
		calls := func() map[string]outcome {
			all := outcomes(s, bears)
			for name, o := range others(n, m, c, l, space, deeds) {
				all[name] = o
			}
			return all
		}
		before := calls()
		for name, o := range calls() {
			if o != before[name] || o.e != api.OK && o.results != o.zero {
				t.Error(name, s, bears, n, m, c, l, space, deeds, o, before[name])
			}
			if o.e == api.OK {
				ok[name]++
			}
		}
	}
	for _, name := range []string{"CheckStack", "Hangs", "Loads", "Crushed", "Free", "Shrunk", "Moulds", "Left", "Need", "New", "Mould", "Count"} {
		if ok[name] < 20 {
			t.Error("only so many calls without an error:", name, ok[name])
		}
	}
	long := api.Stack{Width: 1 << 9, Height: 1 << 9, Tiers: []api.Tier{{Cells: make([]int, 1<<18), Weights: make([]int, 1<<18)}}}
	for name, o := range outcomes(long, make([]int, 1<<18)) {
		if o.e != api.ErrArg || o.results != o.zero {
			t.Error(name, o)
		}
	}
}

// R3: a nil list and an empty one are the same.
func TestNilAndEmpty(t *testing.T) {
	for _, x := range []api.Stack{row(1), row(0), row(2, tier(cells(-1, -1))), row(1, tier(nil))} {
		y := x
		y.Tiers = []api.Tier{}
		for _, old := range x.Tiers {
			y.Tiers = append(y.Tiers, api.Tier{Cells: append([]int{}, old.Cells...), Weights: []int{}})
		}
		first := outcomes(x, nil)
		for name, o := range outcomes(y, []int{}) {
			if o != first[name] {
				t.Error(name, x, o, first[name])
			}
		}
	}
	first := others(0, 0, api.Clay{}, nil, nil, nil)
	for name, o := range others(0, 0, api.Clay{}, []api.YardStage{}, []int{}, []api.Batch{}) {
		if o != first[name] {
			t.Error(name, o, first[name])
		}
	}
	a, b := book(t, 1, 1), book(t, 1, 1)
	if e, f := a.Fire(nil), b.Fire([]api.Batch{}); e != f || e != api.ErrArg {
		t.Error(e, f)
	}
	carry(t, a, mould(0, 1, api.OK), dry(0, 1, 0, api.OK), fire(api.OK, batch(0, 1)))
	if e, f := a.Draw(nil), a.Draw([]int{}); e != f || e != api.ErrForm {
		t.Error(e, f)
	}
}

// roomy returns a copy of a list with room behind it, which an append would take.
func roomy[T any](l []T) []T { return append(make([]T, 0, 2*len(l)+9), l...) }

// scribble writes over a list, and over the spare room behind it.
func scribble[T any](with T, l []T) {
	for i := range l[:cap(l)] {
		l[:cap(l)][i] = with
	}
}

// unused reports whether the room behind a list is as it was made.
func unused[T comparable](l []T) bool {
	var zero T
	return !slices.ContainsFunc(l[len(l):cap(l)], func(x T) bool { return x != zero })
}

// R4: no call with a stack changes it, and no result shares memory with it, nor its lists with each other.
func TestMemoryOfStacks(t *testing.T) {
	wild := load(-9, -9)
	for _, given := range []api.Stack{example(), bridge(), ledge(), apart(), row(2), filled(3, 4, 10), heavy(5185, 16935, 0, 1)} {
		s := given
		s.Tiers = roomy(given.Tiers)
		for k, old := range given.Tiers {
			s.Tiers[k] = api.Tier{Cells: roomy(old.Cells), Weights: roomy(old.Weights)}
		}
		bears := roomy(slices.Repeat([]int{7}, len(s.Tiers)))
		outcomes(s, bears)
		bricks, floor, e := kiln.Loads(s)
		free, f := kiln.Free(s)
		if !same(s, given) || !unused(bears) || !same(bears, slices.Repeat([]int{7}, len(s.Tiers))) || e != api.OK || f != api.OK {
			t.Error("changed", given, s, bears, e, f)
		}
		for _, tier := range s.Tiers {
			if !unused(tier.Cells) || !unused(tier.Weights) {
				t.Error("changed", given, tier)
			}
		}
		before := told([]any{bricks, floor, free})
		for _, tier := range s.Tiers {
			scribble(-9, tier.Cells)
			scribble(-9, tier.Weights)
		}
		scribble(api.Tier{}, s.Tiers)
		scribble(-9, bears)
		if told([]any{bricks, floor, free}) != before {
			t.Error("shared with an argument", given)
		}
		lists := append([][]api.Load{floor}, bricks...)
		for i := range lists {
			after := told(lists[i+1:])
			scribble(wild, lists[i])
			if told(lists[i+1:]) != after {
				t.Error("shared with each other", given, i)
			}
		}
		scribble(at(-9, -9), free)
		if again, _ := kiln.Free(given); told(again) == told(free) && len(free) > 0 {
			t.Error("another result", given, again)
		}
	}
}

// R4: no call changes its stages or spaces.
func TestMemoryOfLists(t *testing.T) {
	l, space := roomy(stages(500, 1000, 3, 9)), roomy([]int{1, 2})
	others(7, 9, clay(1, 2, 3, 4), l, space, nil)
	if !slices.Equal(l, stages(500, 1000, 3, 9)) || !unused(l) || !slices.Equal(space, []int{1, 2}) || !unused(space) {
		t.Error("changed", l, space)
	}
}
