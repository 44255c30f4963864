package layer_test

import (
	"fmt"
	"math"
	"slices"
	"testing"

	"chiti/api"
	"chiti/brick"
	"chiti/layer"
)

func quarter(x, y, side int) api.Quarter { return api.Quarter{X: x, Y: y, Side: side} }

func edge(x, y, kind int) api.Edge { return api.Edge{X: x, Y: y, Kind: kind} }

// laid returns a brick that is not reflected, and reflected one that is.
func laid(kind, turns, x, y int) api.Laid {
	return api.Laid{Kind: kind, Place: api.Place{Turns: turns, X: x, Y: y}}
}

func reflected(kind, turns, x, y int) api.Laid {
	l := laid(kind, turns, x, y)
	l.Place.Mirror = true
	return l
}

func bricks(l ...api.Laid) []api.Laid { return l }

func edges(l ...api.Edge) []api.Edge { return l }

// shape returns the shape of a text, and nil for no text.
func shape(text string) []api.Quarter {
	s, e := brick.Parse(text)
	if e != api.OK {
		return nil
	}
	return s
}

// moved returns the shape of a text at a place of the grid.
func moved(text string, x, y int) []api.Quarter {
	s, _ := brick.Put(shape(text), api.Place{X: x, Y: y})
	return s
}

// task returns a task without fixed bricks and joints below.
func task(ground string, counts []int, kinds ...string) api.Task {
	t := api.Task{Ground: shape(ground), Counts: counts}
	for _, k := range kinds {
		t.Kinds = append(t.Kinds, shape(k))
	}
	return t
}

func fixed(t api.Task, l ...api.Laid) api.Task {
	t.Fixed = l
	return t
}

func above(t api.Task, l ...api.Edge) api.Task {
	t.Below = l
	return t
}

// two is the task of the first example: two oblongs on four cells.
func two() api.Task { return task("ff/ff", []int{2}, "ff") }

// east and turned are its tilings.
func east() []api.Laid { return bricks(laid(0, 0, 0, 0), laid(0, 0, 0, 1)) }

func turned() []api.Laid { return bricks(laid(0, 1, 0, 0), laid(0, 1, 1, 0)) }

func told(x any) string { return fmt.Sprintf("%+v", x) }

// same reports whether two results are told in the same way; a nil list and an empty one are.
func same(x, y any) bool { return told(x) == told(y) }

// pseudo returns a function that yields integers from 0 to below n, the same ones in every run.
func pseudo() func(n int) int {
	state := uint64(88172645463325252)
	return func(n int) int {
		state ^= state << 13
		state ^= state >> 7
		state ^= state << 17
		return int(state % uint64(n))
	}
}

// some returns quarters in an oblong of w times h cells, each one with the chance of n in 8, but at least one.
func some(next func(n int) int, x, y, w, h, n int) []api.Quarter {
	var s []api.Quarter
	for row := range h {
		for column := range w {
			for side := range 4 {
				if next(8) < n {
					s = append(s, quarter(x+column, y+row, side))
				}
			}
		}
	}
	if len(s) == 0 {
		s = append(s, quarter(x+next(w), y+next(h), next(4)))
	}
	return s
}

// full returns the first so many quarters of the grid.
func full(count int) []api.Quarter {
	var s []api.Quarter
	for i := range count {
		s = append(s, quarter(i/4%api.MaxGrid, i/4/api.MaxGrid, i%4))
	}
	return s
}

// someKind returns a shape for bricks: mostly one of a name, else a small one.
func someKind(next func(n int) int) []api.Quarter {
	texts := []string{"f", "ff", "3", "1", "6c", "6c/39", "f0/ff", "5", "7", "f1", "66", "f/3"}
	if next(4) == 0 {
		return some(next, next(10), next(10), 1+next(2), 1+next(2), 3)
	}
	return shape(texts[next(len(texts))])
}

// someGround returns a ground of up to w times h cells, somewhere on the grid; mostly all of them.
func someGround(next func(n int) int, w, h int) []api.Quarter {
	w, h = 1+next(w), 1+next(h)
	chance := 8
	if next(3) == 0 {
		chance = 5 + next(3)
	}
	return some(next, next(api.MaxGrid+1-w), next(api.MaxGrid+1-h), w, h, chance)
}

// filled lays bricks at random until the ground is covered, and returns them, by their quarters, if that was possible.
func filled(next func(n int) int, t api.Task) ([]api.Laid, bool) {
	covered := map[api.Quarter]bool{}
	var l []api.Laid
	for _, q := range t.Ground {
		if covered[q] {
			continue
		}
		var can []api.Laid
		for _, b := range modelLaid(t) {
			s := quartersOf(t, b)
			if slices.Contains(s, q) && !slices.ContainsFunc(s, func(q api.Quarter) bool { return covered[q] }) {
				can = append(can, b)
			}
		}
		if len(can) == 0 {
			return nil, false
		}
		b := can[next(len(can))]
		l = append(l, b)
		for _, q := range quartersOf(t, b) {
			covered[q] = true
		}
	}
	return l, len(l) <= api.MaxLaid
}

// counted returns a task with as many bricks of each kind as there are in a list.
func counted(t api.Task, l []api.Laid) api.Task {
	t.Counts = make([]int, len(t.Kinds))
	for _, b := range l {
		t.Counts[b.Kind]++
	}
	return t
}

// tiledTask returns a task that some bricks tile, and these.
func tiledTask(next func(n int) int, w, h int) (api.Task, []api.Laid) {
	for {
		t := api.Task{Ground: someGround(next, w, h)}
		for range 1 + next(4) {
			t.Kinds = append(t.Kinds, someKind(next))
		}
		if l, ok := filled(next, t); ok {
			return counted(t, l), l
		}
	}
}

// someEdges returns some edges in ascending order, up to so many, of those of a list.
func someEdges(next func(n int) int, l []api.Edge, count int) []api.Edge {
	var some []api.Edge
	for range count {
		if len(l) > 0 {
			some = append(some, l[next(len(l))])
		}
	}
	slices.SortFunc(some, modelCompareEdges)
	return slices.Compact(some)
}

// someTask returns a task that has tilings, or, one time in about three, one that need not have any.
func someTask(next func(n int) int, w, h int) (api.Task, []api.Laid) {
	t, l := tiledTask(next, w, h)
	for range next(3) {
		t.Fixed = append(t.Fixed, l[next(len(l))])
	}
	inner := modelEdges(t.Ground)
	if next(2) == 0 {
		joints := modelJoints(t, l)
		inner = slices.DeleteFunc(inner, func(e api.Edge) bool { return slices.Contains(joints, e) })
	}
	t.Below = someEdges(next, inner, next(4))
	switch next(10) {
	case 0:
		i := next(len(t.Counts))
		t.Counts[i] = max(0, t.Counts[i]+1-2*next(2))
	case 1:
		all := modelLaid(t)
		t.Fixed = append(t.Fixed, all[next(len(all))])
	case 2:
		t.Kinds[next(len(t.Kinds))] = someKind(next)
	case 3:
		t = swapped(next, t)
	}
	if layer.Check(t) != api.OK {
		return someTask(next, w, h)
	}
	return t, l
}

// swapped returns a task with other counts, but the same area of the bricks, if there are such counts.
func swapped(next func(n int) int, t api.Task) api.Task {
	for range 200 {
		area, counts := 0, make([]int, len(t.Kinds))
		for i := range counts {
			counts[i] = next(5)
			area += counts[i] * len(t.Kinds[i])
		}
		if area == len(t.Ground) && !slices.Equal(counts, t.Counts) {
			t.Counts, t.Fixed = counts, nil
			return t
		}
	}
	return t
}

func extremes() []int {
	return []int{math.MinInt, math.MinInt + 1, -1001, -1000, -17, -16, -2, -1, 0, 1, 2, 3, 4, 5, 6, 8, 9, 15, 16, 17, 64, 1000, 1001, 1 << 32, 1 << 62, math.MaxInt - 15, math.MaxInt - 1, math.MaxInt}
}

// sound stops a test with a task that is not valid.
func sound(t *testing.T, tasks ...api.Task) {
	t.Helper()
	for _, x := range tasks {
		if e := layer.Check(x); e != api.OK {
			t.Fatal("no task:", x, e)
		}
	}
}
