package layer_test

import (
	"slices"
	"testing"

	"chiti/api"
	"chiti/layer"
)

// outcome is what a call returned: everything but the error, as text, and the same for zero values.
type outcome struct {
	results, zero string
	e             api.Errno
}

func outcomeOf[T any](x T, e api.Errno) outcome {
	var zero T
	return outcome{told(x), told(zero), e}
}

func outcomeOfTwo(a, b int, e api.Errno) outcome { return outcomeOf([2]int{a, b}, e) }

func outcomeOfThree(a, b, c int, e api.Errno) outcome { return outcomeOf([3]int{a, b, c}, e) }

// outcomes calls all functions with some arguments.
func outcomes(t api.Task, l []api.Laid, plan [][]api.Laid, n int, weights, first, last []int) map[string]outcome {
	return map[string]outcome{
		"Check":   outcomeOf(0, layer.Check(t)),
		"Covers":  outcomeOfTwo(layer.Covers(t, l)),
		"Joints":  outcomeOf(layer.Joints(t, l)),
		"First":   outcomeOf(layer.First(t)),
		"Next":    outcomeOf(layer.Next(t, l)),
		"Count":   outcomeOfThree(layer.Count(t)),
		"Why":     outcomeOf(layer.Why(t)),
		"Refutes": outcomeOf(layer.Refutes(t, weights)),
		"Layers":  outcomeOf(layer.Layers(t, n)),
		"Verify":  outcomeOfThree(layer.Verify(t, plan)),
		"Order":   outcomeOf(layer.Order(t, l, first, last)),
	}
}

// P1: no function panics, whatever it is given, and with an error every other result is zero; the same call has the same result.
func TestWild(t *testing.T) {
	next := pseudo()
	integer := func() int { return extremes()[next(len(extremes()))] }
	wildLaid := func() api.Laid {
		return api.Laid{Kind: integer(), Place: api.Place{Mirror: next(2) == 0, Turns: integer(), X: integer(), Y: integer()}}
	}
	integers := func() []int {
		var l []int
		for range next(4) {
			l = append(l, integer())
		}
		return l
	}
	ok := 0
	for range 1500 {
		x, l := someTask(next, 2, 2)
		switch next(12) {
		case 0:
			x.Ground[next(len(x.Ground))] = quarter(integer(), integer(), integer())
		case 1:
			x.Kinds = append(x.Kinds, []api.Quarter{quarter(integer(), integer(), integer())})
		case 2:
			x.Counts[next(len(x.Counts))] = integer()
		case 3:
			x.Fixed = append(x.Fixed, wildLaid())
		case 4:
			x.Below = append(x.Below, edge(integer(), integer(), integer()))
		case 5:
			x.Counts = integers()
		case 6:
			l = append(l, wildLaid())
		case 7:
			x.Ground = full(64)
		}
		weights := make([]int, len(x.Ground))
		if next(3) == 0 {
			weights = integers()
		}
		plan := [][]api.Laid{l, l, {wildLaid()}, nil}[next(3):]
		n, first, last := integer(), integers(), integers()
		calls := func() map[string]outcome { return outcomes(x, l, plan, n, weights, first, last) }
		before := calls()
		for name, o := range calls() {
			if o != before[name] || o.e != api.OK && o.results != o.zero {
				t.Error(name, x, l, o, before[name])
			}
			if o.e == api.OK {
				ok++
			}
		}
	}
	if ok < 3000 {
		t.Error("only so many calls without an error:", ok)
	}
	long := api.Task{Ground: make([]api.Quarter, 1<<18), Kinds: make([][]api.Quarter, 1<<18), Counts: make([]int, 1<<18), Fixed: make([]api.Laid, 1<<18), Below: make([]api.Edge, 1<<18)}
	for name, o := range outcomes(long, make([]api.Laid, 1<<18), make([][]api.Laid, 1<<18), 1, make([]int, 1<<18), nil, nil) {
		if o.e != api.ErrArg || o.results != o.zero {
			t.Error(name, o)
		}
	}
}

// R3: a nil list and an empty one are the same.
func TestNilAndEmpty(t *testing.T) {
	for _, x := range []api.Task{two(), task("f0/0f", []int{1}, "ff"), task("f", []int{2}, "3"), {}} {
		filledIn := x
		filledIn.Fixed, filledIn.Below = []api.Laid{}, []api.Edge{}
		if len(x.Ground) == 0 {
			filledIn = api.Task{Ground: []api.Quarter{}, Kinds: [][]api.Quarter{}, Counts: []int{}, Fixed: []api.Laid{}, Below: []api.Edge{}}
		}
		first := outcomes(x, nil, nil, 2, nil, nil, nil)
		for name, o := range outcomes(filledIn, []api.Laid{}, [][]api.Laid{}, 2, []int{}, []int{}, []int{}) {
			if o != first[name] {
				t.Error(name, x, o, first[name])
			}
		}
		l, _ := layer.First(x)
		first = outcomes(x, l, [][]api.Laid{l, nil}, 2, nil, nil, nil)
		for name, o := range outcomes(filledIn, l, [][]api.Laid{l, {}}, 2, []int{}, []int{}, []int{}) {
			if o != first[name] {
				t.Error(name, x, o, first[name])
			}
		}
	}
}

// roomy returns a copy of a list with room behind it, which an append would take.
func roomy[T any](l []T) []T { return append(make([]T, 0, 2*len(l)+9), l...) }

// scribble writes over a list, and over the spare room behind it.
func scribble[T any](with T, l []T) {
	for i := range l[:cap(l)] {
		l[:cap(l)][i] = with
	}
}

// unused reports whether the room behind a list is as it was made.
func unused[T comparable](l []T) bool {
	var zero T
	return !slices.ContainsFunc(l[len(l):cap(l)], func(x T) bool { return x != zero })
}

// roomyTask returns a copy of a task with lists of its own.
func roomyTask(t api.Task) api.Task {
	kinds := roomy(t.Kinds)
	for i := range kinds {
		kinds[i] = roomy(kinds[i])
	}
	return api.Task{Ground: roomy(t.Ground), Kinds: kinds, Counts: roomy(t.Counts), Fixed: roomy(t.Fixed), Below: roomy(t.Below)}
}

func isUnused(t api.Task) bool {
	for _, s := range t.Kinds {
		if !unused(s) {
			return false
		}
	}
	return unused(t.Ground) && unused(t.Counts) && unused(t.Fixed) && unused(t.Below)
}

func scribbleTask(t api.Task) {
	wild := quarter(-9, -9, -9)
	scribble(wild, t.Ground)
	for _, s := range t.Kinds {
		scribble(wild, s)
	}
	scribble(nil, t.Kinds)
	scribble(-9, t.Counts)
	scribble(laid(-9, -9, -9, -9), t.Fixed)
	scribble(edge(-9, -9, -9), t.Below)
}

// R4: no call changes an argument, and no result shares memory with it, nor its lists with each other.
func TestMemory(t *testing.T) {
	wild := laid(-9, -9, -9, -9)
	for _, given := range []api.Task{
		two(), above(two(), edge(0, 0, 4), edge(1, 1, 4)), task("f", []int{1}, "f"), task("fff", []int{1, 1}, "ff", "f"),
		fixed(task("ff/ff", []int{1, 2}, "ff", "f"), laid(1, 0, 1, 1)), task("f", []int{1, 2}, "3", "1"),
	} {
		tiling, e := layer.First(given)
		if e != api.OK {
			t.Fatal(given, e)
		}
		x, l, begin, end := roomyTask(given), roomy(tiling), roomy([]int{0}), roomy([]int{len(tiling) - 1}[:len(tiling)-1-max(0, len(tiling)-2)])
		weights := roomy(make([]int, len(given.Ground)))
		plan := roomy([][]api.Laid{l, l})
		outcomes(x, l, plan, 5, weights, begin, end)
		first, _ := layer.First(x)
		next, _ := layer.Next(x, l)
		layers, _ := layer.Layers(x, 5)
		joints, _ := layer.Joints(x, l)
		order, e := layer.Order(x, l, begin, end)
		if !same(x, given) || !isUnused(x) || !same(l, tiling) || !unused(l) || !unused(begin) || !unused(end) || !unused(weights) || len(begin) != 1 || begin[0] != 0 || e != api.OK {
			t.Error("changed", given, x, l, begin, end, e)
		}
		if !same(plan, [][]api.Laid{tiling, tiling}) || plan[:3][2] != nil {
			t.Error("changed", given, plan)
		}
		lists := append([][]api.Laid{first, next}, layers...)
		before := told([]any{lists, joints, order})
		scribbleTask(x)
		scribble(wild, l)
		scribble(-9, begin)
		scribble(-9, end)
		scribble(-9, weights)
		if told([]any{lists, joints, order}) != before {
			t.Error("shared with an argument", given)
		}
		for i := range lists {
			after := told(lists[i+1:])
			scribble(wild, lists[i])
			if told(lists[i+1:]) != after {
				t.Error("shared with each other", given, i)
			}
		}
		scribble(edge(-9, -9, -9), joints)
		scribble(-9, order)
		if again, e := layer.First(given); !same(again, tiling) || e != api.OK {
			t.Error("another result", given, again, e)
		}
	}
}
