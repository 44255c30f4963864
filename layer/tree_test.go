package layer_test

import (
	"slices"
	"testing"

	"chiti/api"
	"chiti/layer"
)

// tilings returns the tilings from First by Next one after another, at most so many.
func tilings(t *testing.T, x api.Task, most int) [][]api.Laid {
	t.Helper()
	var all [][]api.Laid
	l, e := layer.First(x)
	for e == api.OK && len(all) < most {
		all = append(all, l)
		l, e = layer.Next(x, l)
	}
	if len(all) < most && (e != api.ErrNone || len(l) != 0) {
		t.Fatal(x, l, e)
	}
	return all
}

// P7.3, P7.4, P7.5: tasks with few tilings.
func TestTree(t *testing.T) {
	pair := task("ff/ff", []int{1, 2}, "ff", "f")
	for i, c := range []struct {
		t                  api.Task
		all, unlike, nodes int
		why                api.Reason
	}{
		{two(), 2, 1, 5, 0},
		{task("fff", []int{1, 1}, "ff", "f"), 2, 1, 5, 0},
		{task("fff", []int{1, 1}, "f", "ff"), 2, 1, 5, 0},
		{task("f", []int{1}, "f"), 1, 1, 2, 0},
		{task("f", []int{2}, "3"), 2, 1, 5, 0},
		{task("f", []int{4}, "1"), 1, 1, 5, 0},
		{task("f", []int{1, 2}, "3", "1"), 4, 1, 12, 0},
		{task("1", []int{1}, "1"), 1, 1, 2, 0},
		{task("fff/fff", []int{2}, "f0/ff"), 2, 1, 6, 0},
		{task("ff", []int{1, 1}, "f", "f"), 2, 1, 5, 0},
		{task("ff", []int{2, 0}, "f", "f"), 1, 1, 3, 0},
		{task("ff/ff", []int{1, 1}, "ff", "ff"), 4, 1, 9, 0},
		{task("ffff", []int{1, 2}, "ff", "f"), 3, 2, 9, 0},
		{task("ffff", []int{2}, "f0f"), 1, 1, 3, 0},
		{task("ffffff", []int{3}, "f0f"), 0, 0, 3, api.ReasonTree},
		{task("f0/0f", []int{1}, "ff"), 0, 0, 1, api.ReasonTree},
		{task("f0/0f", []int{2}, "f"), 1, 1, 3, 0},
		{task("fff", []int{1, 3}, "ff", "f"), 0, 0, 0, api.ReasonArea},
		{task("fff", []int{1, 0}, "ff", "f"), 0, 0, 0, api.ReasonArea},
		{task("fff", []int{0, 0}, "ff", "f"), 0, 0, 0, api.ReasonArea},
		{fixed(pair, laid(1, 0, 1, 1)), 2, 1, 6, 0},
		{fixed(pair, laid(1, 0, 1, 1), laid(1, 0, 0, 1)), 1, 1, 2, 0},
		{fixed(pair, laid(1, 0, 1, 1), laid(1, 0, 0, 0)), 0, 0, 1, api.ReasonTree},
		{fixed(pair, laid(0, 0, 0, 1)), 1, 1, 3, 0},
		{fixed(two(), east()...), 1, 1, 1, 0},
		{fixed(two(), east()[1], east()[0]), 1, 1, 1, 0},
		// Fixed bricks that do not fit: they meet, are no bricks, are too many, or have a joint below.
		{fixed(pair, laid(1, 0, 1, 1), laid(0, 0, 0, 1)), 0, 0, 0, api.ReasonFixed},
		{fixed(pair, laid(1, 0, 1, 1), laid(1, 0, 1, 1)), 0, 0, 0, api.ReasonFixed},
		{fixed(pair, laid(0, 2, 0, 0)), 0, 0, 0, api.ReasonFixed},
		{fixed(pair, laid(0, 0, 0, 0), reflected(1, 0, 0, 1)), 0, 0, 0, api.ReasonFixed},
		{fixed(pair, laid(2, 0, 0, 0)), 0, 0, 0, api.ReasonFixed},
		{fixed(pair, laid(-1, 0, 0, 0)), 0, 0, 0, api.ReasonFixed},
		{fixed(pair, laid(0, 0, 0, 0), laid(0, 0, 0, 1)), 0, 0, 0, api.ReasonFixed},
		{fixed(task("ff/ff", []int{0, 4}, "ff", "f"), laid(0, 0, 0, 0)), 0, 0, 0, api.ReasonFixed},
		{above(fixed(two(), east()...), edge(0, 1, 4)), 0, 0, 0, api.ReasonFixed},
		{above(fixed(two(), east()...), edge(1, 1, 4)), 0, 0, 0, api.ReasonFixed},
		{above(fixed(two(), east()...), edge(0, 0, 4), edge(1, 0, 5), edge(1, 1, 5)), 1, 1, 1, 0},
		{above(fixed(two(), east()[1]), edge(1, 1, 4)), 0, 0, 1, api.ReasonTree},
		// What is fixed comes ahead of the area.
		{fixed(task("fff", []int{1, 3}, "ff", "f"), laid(0, 0, 2, 0)), 0, 0, 0, api.ReasonFixed},
		{fixed(task("fff", []int{1, 3}, "ff", "f"), laid(0, 0, 1, 0)), 0, 0, 0, api.ReasonArea},
		// Joints below leave only some of the tilings, and cut the tree.
		{above(two(), edge(1, 1, 4)), 1, 1, 4, 0},
		{above(two(), edge(0, 1, 4), edge(1, 1, 4)), 1, 1, 4, 0},
		{above(two(), edge(1, 0, 5)), 1, 1, 4, 0},
		{above(two(), edge(1, 0, 5), edge(1, 1, 4)), 0, 0, 3, api.ReasonTree},
		{above(two(), edge(0, 0, 4), edge(0, 0, 5), edge(2, 0, 5), edge(1, 2, 4), edge(16, 16, 5)), 2, 1, 5, 0},
		// Two tilings that only a symmetry without the joint makes of each other, and one that is fixed on one side.
		{above(task("ffff", []int{1, 2}, "ff", "f"), edge(1, 0, 5)), 1, 1, 5, 0},
		{fixed(task("ffff", []int{1, 2}, "ff", "f"), laid(1, 0, 0, 0)), 2, 2, 5, 0},
		{fixed(task("ffff", []int{1, 2}, "ff", "f"), laid(1, 0, 0, 0), laid(1, 0, 3, 0)), 1, 1, 2, 0},
	} {
		sound(t, c.t)
		all, unlike, nodes, e := layer.Count(c.t)
		if all != c.all || unlike != c.unlike || nodes != c.nodes || e != api.OK {
			t.Error(i, all, unlike, nodes, e)
		}
		want := api.OK
		if c.all > 0 {
			want = api.ErrState
		}
		if why, e := layer.Why(c.t); why != c.why || e != want {
			t.Error(i, why, e)
		}
		if found := tilings(t, c.t, 99); len(found) != c.all {
			t.Error(i, found)
		}
	}
}

// P7.3: which tiling is the first one, and the next one.
func TestFirst(t *testing.T) {
	pair := task("ff/ff", []int{1, 2}, "ff", "f")
	for i, c := range []struct {
		t    api.Task
		want [][]api.Laid
	}{
		{two(), [][]api.Laid{east(), turned()}},
		{pair, [][]api.Laid{
			bricks(laid(0, 0, 0, 0), laid(1, 0, 0, 1), laid(1, 0, 1, 1)),
			bricks(laid(0, 1, 0, 0), laid(1, 0, 1, 0), laid(1, 0, 1, 1)),
			bricks(laid(1, 0, 0, 0), laid(0, 1, 1, 0), laid(1, 0, 0, 1)),
			bricks(laid(1, 0, 0, 0), laid(1, 0, 1, 0), laid(0, 0, 0, 1)),
		}},
		{fixed(pair, laid(1, 0, 1, 1)), [][]api.Laid{
			bricks(laid(0, 0, 0, 0), laid(1, 0, 0, 1), laid(1, 0, 1, 1)),
			bricks(laid(0, 1, 0, 0), laid(1, 0, 1, 0), laid(1, 0, 1, 1)),
		}},
		{fixed(pair, laid(1, 0, 1, 0)), [][]api.Laid{
			bricks(laid(0, 1, 0, 0), laid(1, 0, 1, 0), laid(1, 0, 1, 1)),
			bricks(laid(1, 0, 0, 0), laid(1, 0, 1, 0), laid(0, 0, 0, 1)),
		}},
		{task("ff", []int{1, 1}, "f", "f"), [][]api.Laid{
			bricks(laid(0, 0, 0, 0), laid(1, 0, 1, 0)),
			bricks(laid(1, 0, 0, 0), laid(0, 0, 1, 0)),
		}},
		// By kind first, then by the order of places: unreflected ones first, then by turns.
		{task("f", []int{1, 2}, "3", "1"), [][]api.Laid{
			bricks(laid(0, 0, 0, 0), laid(1, 2, 0, 0), laid(1, 1, 0, 0)),
			bricks(laid(0, 1, 0, 0), laid(1, 3, 0, 0), laid(1, 2, 0, 0)),
			bricks(laid(1, 0, 0, 0), laid(0, 3, 0, 0), laid(1, 1, 0, 0)),
			bricks(laid(1, 0, 0, 0), laid(1, 3, 0, 0), laid(0, 2, 0, 0)),
		}},
		{task("36", []int{1}, "36"), [][]api.Laid{bricks(laid(0, 0, 0, 0))}},
		{task("9c", []int{1}, "36"), [][]api.Laid{bricks(laid(0, 2, 0, 0))}},
		{task("c9", []int{1}, "36"), [][]api.Laid{bricks(reflected(0, 0, 0, 0))}},
		{task("63", []int{1}, "36"), [][]api.Laid{bricks(reflected(0, 2, 0, 0))}},
		{task("66", []int{1}, "36"), nil},
		{task("39", []int{1}, "6c"), [][]api.Laid{bricks(laid(0, 2, 0, 0))}},
		{task("f0/ff", []int{1}, "ff/f0"), [][]api.Laid{bricks(laid(0, 1, 0, 0))}},
	} {
		sound(t, c.t)
		if got := tilings(t, c.t, 99); !same(got, c.want) {
			t.Error(i, got)
		}
		if got := modelExpected(c.t); !same(got, c.want) {
			t.Error("the model:", i, got)
		}
		for j, l := range c.want {
			if rule, _, e := layer.Covers(c.t, l); rule != 0 || e != api.OK {
				t.Error(i, j, rule, e)
			}
		}
	}
}

// modelExpected returns the tilings that there are by the tree of the model.
func modelExpected(t api.Task) [][]api.Laid {
	if !modelFits(t) || modelArea(t) != len(t.Ground) {
		return nil
	}
	return modelTilings(t)
}

// P7.3: errors of Next.
func TestNextErrors(t *testing.T) {
	for i, c := range []struct {
		t api.Task
		l []api.Laid
		e api.Errno
	}{
		{two(), turned(), api.ErrNone},
		{two(), nil, api.ErrState},
		{two(), east()[:1], api.ErrState},
		{two(), bricks(east()[1], east()[0]), api.ErrState},
		{two(), make([]api.Laid, 16), api.ErrState},
		{two(), make([]api.Laid, 17), api.ErrLong},
		{above(two(), edge(1, 1, 4)), east(), api.ErrState},
		{above(two(), edge(1, 1, 4)), turned(), api.ErrNone},
		{above(two(), edge(1, 1, 5)), east(), api.ErrNone},
		{fixed(two(), east()[0]), east(), api.ErrNone},
		{fixed(two(), turned()[1]), east(), api.ErrState},
		// The same brick is fixed twice: so they do not fit, though each is in the list.
		{fixed(two(), east()[0], east()[0]), east(), api.ErrNone},
		{fixed(two(), turned()[0], turned()[0]), east(), api.ErrState},
		{task("fff", []int{1, 3}, "ff", "f"), bricks(laid(0, 0, 0, 0), laid(1, 0, 2, 0)), api.ErrState},
		{task("f0/0f", []int{1}, "ff"), nil, api.ErrState},
	} {
		sound(t, c.t)
		if l, e := layer.Next(c.t, c.l); e != c.e || len(l) != 0 {
			t.Error(i, l, e)
		}
	}
}

// great returns a task with a tree of many more than MaxNodes nodes.
func great() api.Task { return task("ff/ff", []int{4, 4, 4, 4}, "1", "1", "1", "1") }

// exact returns a task with a tree of 19998 nodes and count more: bricks of two kinds that have four places, and of four kinds that have nine, behind so many that have only one place each.
func exact(count int) api.Task {
	south := "555"[:count] + "000000000"[count:]
	return task("333333333/282828280/"+south, []int{3, 1, 5, 2, 1, 1, count}, "28", "28", "3", "3", "3", "3", "5")
}

// P7.3, P7.4, P7.5: what is too great is refused, but not what is told without the tree.
func TestGreatTrees(t *testing.T) {
	for i, c := range []struct {
		t     api.Task
		why   api.Reason
		e     api.Errno // of Why
		first api.Errno
	}{
		{great(), 0, api.ErrFull, api.ErrFull},
		{fixed(great(), laid(1, 0, 1, 1)), 0, api.ErrFull, api.ErrFull},
		{above(great(), edge(0, 0, 5), edge(2, 1, 5)), 0, api.ErrFull, api.ErrFull},
		{fixed(great(), laid(1, 0, 2, 0)), api.ReasonFixed, api.OK, api.ErrNone},
		{task("ff/ff", []int{4, 4, 4, 3}, "1", "1", "1", "1"), api.ReasonArea, api.OK, api.ErrNone},
		{fixed(task("ff/ff", []int{4, 4, 4, 3}, "1", "1", "1", "1"), laid(1, 0, 2, 0)), api.ReasonFixed, api.OK, api.ErrNone},
		// There is no tiling, and the tree is too great to tell.
		{task("ff/ff", []int{4, 4, 4, 2, 1}, "1", "1", "1", "1", "1001"), 0, api.ErrFull, api.ErrFull},
		// One node more than there may be.
		{exact(3), 0, api.ErrFull, api.ErrFull},
	} {
		sound(t, c.t)
		if why, e := layer.Why(c.t); why != c.why || e != c.e {
			t.Error(i, why, e)
		}
		if l, e := layer.First(c.t); len(l) != 0 || e != c.first {
			t.Error(i, l, e)
		}
		all, unlike, nodes, e := layer.Count(c.t)
		if all != 0 || unlike != 0 || nodes != 0 || e != c.e {
			t.Error(i, all, unlike, nodes, e)
		}
	}
	x := great()
	l, ok := []api.Laid(nil), false
	for next := pseudo(); !ok || !slices.Equal(counted(x, l).Counts, x.Counts); {
		l, ok = filled(next, x)
	}
	if rule, at, e := layer.Covers(x, l); rule != 0 || at != 0 || e != api.OK {
		t.Error(rule, at, e)
	}
	if next, e := layer.Next(x, l); len(next) != 0 || e != api.ErrFull {
		t.Error(next, e)
	}
	if next, e := layer.Next(x, l[1:]); len(next) != 0 || e != api.ErrState {
		t.Error(next, e)
	}
	// With too many bricks fixed, the same list is a tiling, but is not looked for.
	if next, e := layer.Next(fixed(x, l[0], l[0]), l); len(next) != 0 || e != api.ErrNone {
		t.Error(next, e)
	}
}

// P7.3, P7.4, P7.5: a tree with as many nodes as there may be.
func TestExactTree(t *testing.T) {
	x := exact(2)
	if all, unlike, nodes, e := layer.Count(x); all != 4*1512 || unlike < all/8 || unlike > all || nodes != api.MaxNodes || e != api.OK {
		t.Error(all, unlike, nodes, e)
	}
	if why, e := layer.Why(x); why != 0 || e != api.ErrState {
		t.Error(why, e)
	}
	l, e := layer.First(x)
	if rule, at, f := layer.Covers(x, l); len(l) != 15 || rule != 0 || at != 0 || e != api.OK || f != api.OK {
		t.Error(l, rule, at, e, f)
	}
	next, e := layer.Next(x, l)
	if rule, at, f := layer.Covers(x, next); len(next) != 15 || rule != 0 || at != 0 || e != api.OK || f != api.OK || same(l, next) {
		t.Error(next, rule, at, e, f)
	}
}

// P7.3, P7.4, P7.5, P7.11: tilings, their order, and the trees are those of the model.
func TestTreeLikeModel(t *testing.T) {
	next := pseudo()
	reasons := map[api.Reason]int{}
	many, symmetric, great := 0, 0, 0
	for range 1500 {
		x, _ := someTask(next, 3, 2)
		all, unlike, gotNodes, e := layer.Count(x)
		// The model is slow.
		if e == api.ErrFull || gotNodes > 400 {
			great++
			continue
		}
		want, nodes := modelExpected(x), modelTold(x)
		if all != len(want) || unlike != modelUnlike(x, want) || gotNodes != nodes || e != api.OK {
			t.Fatal(x, all, unlike, gotNodes, e, len(want), nodes)
		}
		if got := tilings(t, x, len(want)+1); !same(got, want) {
			t.Fatal(x, got, want)
		}
		why, e := layer.Why(x)
		if wantWhy := modelWhy(x, want); why != wantWhy || (e == api.ErrState) != (why == 0) || why != 0 && e != api.OK {
			t.Fatal(x, why, e, wantWhy)
		}
		reasons[why]++
		if all > 9 {
			many++
		}
		if unlike < all {
			symmetric++
		}
	}
	if great > 250 || many < 50 || symmetric < 50 || reasons[0] < 500 || reasons[1] < 50 || reasons[2] < 50 || reasons[3] < 50 {
		t.Error("seldom tried", great, many, symmetric, reasons)
	}
}

// modelTold returns how many nodes Count tells, or more than MaxNodes.
func modelTold(t api.Task) int {
	if !modelFits(t) || modelArea(t) != len(t.Ground) {
		return 0
	}
	return modelNodes(t)
}

func modelWhy(t api.Task, tilings [][]api.Laid) api.Reason {
	switch {
	case !modelFits(t):
		return api.ReasonFixed
	case modelArea(t) != len(t.Ground):
		return api.ReasonArea
	case len(tilings) == 0:
		return api.ReasonTree
	}
	return 0
}
