package layer_test

import (
	"math"
	"slices"
	"testing"

	"chiti/api"
	"chiti/layer"
)

// P7.7: first plans of few layers, and errors.
func TestLayers(t *testing.T) {
	square := bricks(laid(0, 0, 0, 0))
	crossed := [][]api.Laid{east(), turned(), east(), turned(), east()}
	for i, c := range []struct {
		t    api.Task
		n    int
		want [][]api.Laid
		e    api.Errno
	}{
		{two(), 1, crossed[:1], api.OK},
		{two(), 2, crossed[:2], api.OK},
		{two(), 3, crossed[:3], api.OK},
		{two(), 4, crossed[:4], api.OK},
		{two(), 5, crossed, api.OK},
		{two(), 0, nil, api.ErrRange},
		{two(), 6, nil, api.ErrRange},
		{two(), -1, nil, api.ErrRange},
		{two(), math.MinInt, nil, api.ErrRange},
		{two(), math.MaxInt, nil, api.ErrRange},
		// What lies below is for the first layer only.
		{above(two(), edge(1, 1, 4)), 1, [][]api.Laid{turned()}, api.OK},
		{above(two(), edge(1, 1, 4)), 3, [][]api.Laid{turned(), east(), turned()}, api.OK},
		{above(two(), edge(1, 0, 5), edge(1, 1, 4)), 1, nil, api.ErrNone},
		{above(two(), edge(1, 0, 5), edge(1, 1, 4)), 2, nil, api.ErrNone},
		{above(fixed(two(), east()[0]), edge(1, 1, 4)), 1, nil, api.ErrNone},
		// What is fixed is so in each layer.
		{fixed(two(), east()[0]), 1, crossed[:1], api.OK},
		{fixed(two(), east()[0]), 2, nil, api.ErrNone},
		{fixed(two(), laid(3, 0, 0, 0)), 1, nil, api.ErrNone},
		{fixed(two(), east()[0], east()[0]), 1, nil, api.ErrNone},
		// One brick has no joints.
		{task("f", []int{1}, "f"), 5, [][]api.Laid{square, square, square, square, square}, api.OK},
		{task("f0/0f", []int{2}, "f"), 2, slices.Repeat([][]api.Laid{bricks(laid(0, 0, 1, 0), laid(0, 0, 0, 1))}, 2), api.OK},
		{task("ff", []int{2}, "f"), 1, [][]api.Laid{bricks(laid(0, 0, 0, 0), laid(0, 0, 1, 0))}, api.OK},
		{task("ff", []int{2}, "f"), 2, nil, api.ErrNone},
		{task("ff", []int{3}, "f"), 1, nil, api.ErrNone},
		{task("ff", []int{3}, "f"), 2, nil, api.ErrNone},
		{task("f0/0f", []int{1}, "ff"), 1, nil, api.ErrNone},
		{task("ff", []int{4}, "3"), 2, nil, api.ErrNone},
		// The first tiling of all lies under no other one.
		{task("ffff", []int{1, 2}, "ff", "f"), 1, [][]api.Laid{bricks(laid(0, 0, 0, 0), laid(1, 0, 2, 0), laid(1, 0, 3, 0))}, api.OK},
		{task("ffff", []int{1, 2}, "ff", "f"), 2, nil, api.ErrNone},
		{task("ff/ff", []int{1, 2}, "ff", "f"), 2, nil, api.ErrNone},
		{task("fff", []int{1, 1}, "ff", "f"), 4, [][]api.Laid{
			bricks(laid(0, 0, 0, 0), laid(1, 0, 2, 0)), bricks(laid(1, 0, 0, 0), laid(0, 0, 1, 0)),
			bricks(laid(0, 0, 0, 0), laid(1, 0, 2, 0)), bricks(laid(1, 0, 0, 0), laid(0, 0, 1, 0)),
		}, api.OK},
		{great(), 1, nil, api.ErrFull},
		{great(), 0, nil, api.ErrRange},
		{fixed(great(), laid(9, 0, 0, 0)), 1, nil, api.ErrNone},
	} {
		sound(t, c.t)
		if plan, e := layer.Layers(c.t, c.n); e != c.e || !same(plan, c.want) {
			t.Error(i, plan, e)
		}
	}
}

// P7.7: as many tilings as there may be, and one more.
func TestManyTilings(t *testing.T) {
	most := task("3333300000/2828282828/5555500000", []int{3, 2, 3, 2, 3, 2}, "5", "5", "28", "28", "3", "3")
	more := task("fffff/fffff/ffff0", []int{4, 10}, "f", "f")
	for i, c := range []struct {
		t        api.Task
		all, n   int
		e, first api.Errno
	}{
		{most, 1000, 1, api.OK, api.OK},
		{most, 1000, 2, api.OK, api.OK},
		{most, 1000, 5, api.OK, api.OK},
		{most, 1000, 6, api.ErrRange, api.OK},
		{more, 1001, 1, api.ErrFull, api.OK},
		{more, 1001, 2, api.ErrFull, api.OK},
		{exact(2), 6048, 1, api.ErrFull, api.OK},
		{exact(3), 0, 1, api.ErrFull, api.ErrFull},
		// What lies below the first layer leaves none of the tilings, but they are counted without it.
		{above(more, edge(1, 0, 5)), 0, 1, api.ErrFull, api.ErrNone},
		{fixed(more, laid(0, 0, 0, 0)), 286, 1, api.OK, api.OK},
	} {
		sound(t, c.t)
		l, e := layer.First(c.t)
		if e != c.first {
			t.Error(i, l, e)
		}
		if all, _, _, _ := layer.Count(c.t); all != c.all {
			t.Error(i, all)
		}
		plan, e := layer.Layers(c.t, c.n)
		if e != c.e || e != api.OK && len(plan) != 0 || e == api.OK && !same(plan, slices.Repeat([][]api.Laid{l}, c.n)) {
			t.Error(i, plan, e)
		}
	}
}

// P7.7: the first plan is that of the model, and P7.12: no joint lies over a joint.
func TestLayersLikeModel(t *testing.T) {
	next := pseudo()
	found, later, none := 0, 0, 0
	for i := range 1000 {
		x, _ := someTask(next, 3, 2)
		if i%2 == 0 {
			x = crossedTask(next)
		}
		bare := above(x)
		all, _, _, e := layer.Count(bare)
		if e != api.OK || all > 40 {
			continue
		}
		n := 1 + next(4)
		want := modelPlan(x, modelExpected(bare), n)
		plan, e := layer.Layers(x, n)
		if !same(plan, want) || (e == api.OK) != (len(want) > 0) || e != api.OK && e != api.ErrNone {
			t.Fatal(x, n, plan, want, e)
		}
		if e != api.OK {
			none++
			continue
		}
		verified(t, x, plan)
		found++
		if first, e := layer.First(x); n > 1 && (e != api.OK || !slices.Equal(first, plan[0])) {
			later++
		}
		if n > 1 {
			if plan, e := layer.Layers(x, 5); e != api.OK {
				t.Error("no plan of more layers", x, e)
			} else {
				verified(t, x, plan)
			}
		}
	}
	if found < 200 || later < 10 || none < 100 {
		t.Error("seldom tried", found, later, none)
	}
}

// crossedTask returns a task on an oblong of cells with few long bricks, which often has plans of two layers.
func crossedTask(next func(n int) int) api.Task {
	for {
		x := api.Task{Ground: some(next, next(9), next(9), 2+next(3), 2+next(2), 8)}
		kinds := []string{"ff", "fff", "ffff", "f0/ff", "ff/ff", "fff/f00", "ff0/0ff"}
		for range 1 + next(3) {
			x.Kinds = append(x.Kinds, shape(kinds[next(len(kinds))]))
		}
		if next(3) == 0 {
			// The first tiling of these has often none that crosses it, though others have one.
			x.Ground = some(next, next(9), next(9), 4, 2, 8)
			x.Kinds = [][]api.Quarter{shape(kinds[4+next(3)]), shape("ff")}
		}
		if l, ok := filled(next, x); ok {
			x = counted(x, l)
			x.Below = someEdges(next, modelEdges(x.Ground), next(2))
			return x
		}
	}
}

// verified tests whether a plan is one, and whether no joint lies over a joint.
func verified(t *testing.T, x api.Task, plan [][]api.Laid) {
	t.Helper()
	if n, rule, at, e := layer.Verify(x, plan); n != -1 || rule != 0 || at != 0 || e != api.OK {
		t.Error(x, plan, n, rule, at, e)
	}
	below := x.Below
	for _, l := range plan {
		if rule, at := modelBroken(above(x), l); rule != 0 {
			t.Error(x, plan, rule, at)
		}
		joints, e := layer.Joints(above(x), l)
		if e != api.OK || slices.ContainsFunc(joints, func(j api.Edge) bool { return slices.Contains(below, j) }) {
			t.Error("a joint over a joint", x, plan, e)
		}
		below = joints
	}
}

// P7.8: the first layer that is no tiling, and which rule it breaks.
func TestVerify(t *testing.T) {
	shifted := bricks(laid(0, 0, 0, 1), laid(0, 0, 0, 0))
	for i, c := range []struct {
		t               api.Task
		plan            [][]api.Laid
		layer, rule, at int
		e               api.Errno
	}{
		{two(), nil, -1, 0, 0, api.OK},
		{two(), [][]api.Laid{}, -1, 0, 0, api.OK},
		{two(), [][]api.Laid{east()}, -1, 0, 0, api.OK},
		{two(), [][]api.Laid{east(), turned()}, -1, 0, 0, api.OK},
		{two(), [][]api.Laid{turned(), east(), turned(), east(), turned()}, -1, 0, 0, api.OK},
		{two(), [][]api.Laid{east(), east()}, 1, 7, 0, api.OK},
		{two(), [][]api.Laid{east(), turned(), turned()}, 2, 7, 0, api.OK},
		{two(), [][]api.Laid{nil}, 0, 4, 0, api.OK},
		{two(), [][]api.Laid{nil, nil}, 0, 4, 0, api.OK},
		{two(), [][]api.Laid{east(), nil}, 1, 4, 0, api.OK},
		{two(), [][]api.Laid{east(), turned(), east(), turned(), turned()[:1]}, 4, 4, 4, api.OK},
		{two(), [][]api.Laid{east(), shifted}, 1, 2, 1, api.OK},
		{two(), [][]api.Laid{shifted, make([]api.Laid, 16)}, 0, 2, 1, api.OK},
		{two(), [][]api.Laid{east(), bricks(laid(0, 1, 0, 0), laid(1, 0, 0, 0))}, 1, 1, 1, api.OK},
		{above(two(), edge(1, 1, 4)), [][]api.Laid{east()}, 0, 7, 0, api.OK},
		{above(two(), edge(0, 0, 4), edge(1, 1, 4)), [][]api.Laid{east()}, 0, 7, 1, api.OK},
		{above(two(), edge(1, 1, 4)), [][]api.Laid{turned(), east()}, -1, 0, 0, api.OK},
		{fixed(two(), east()[1]), [][]api.Laid{east(), turned()}, 1, 6, 0, api.OK},
		{fixed(two(), turned()[0], east()[1]), [][]api.Laid{turned()}, 0, 6, 1, api.OK},
		{task("fff", []int{3}, "f"), [][]api.Laid{bricks(laid(0, 0, 0, 0), laid(0, 0, 1, 0), laid(0, 0, 2, 0)), bricks(laid(0, 0, 0, 0), laid(0, 0, 1, 0), laid(0, 0, 2, 0))}, 1, 7, 0, api.OK},
		// The number is that of the joint among those of the layer below.
		{task("ffff", []int{1, 2}, "ff", "f"), [][]api.Laid{bricks(laid(1, 0, 0, 0), laid(0, 0, 1, 0), laid(1, 0, 3, 0)), bricks(laid(0, 0, 0, 0), laid(1, 0, 2, 0), laid(1, 0, 3, 0))}, 1, 7, 1, api.OK},
		{two(), make([][]api.Laid, 6), 0, 0, 0, api.ErrLong},
		{two(), make([][]api.Laid, 1<<16), 0, 0, 0, api.ErrLong},
		{two(), make([][]api.Laid, 5), 0, 4, 0, api.OK},
		{two(), [][]api.Laid{make([]api.Laid, 17)}, 0, 0, 0, api.ErrLong},
		{two(), [][]api.Laid{nil, make([]api.Laid, 17)}, 0, 0, 0, api.ErrLong},
		{two(), [][]api.Laid{east(), turned(), east(), turned(), make([]api.Laid, 17)}, 0, 0, 0, api.ErrLong},
	} {
		sound(t, c.t)
		n, rule, at, e := layer.Verify(c.t, c.plan)
		if n != c.layer || rule != c.rule || at != c.at || e != c.e {
			t.Error(i, n, rule, at, e)
		}
	}
}

// P7.8: layers are verified as the model does it.
func TestVerifyLikeModel(t *testing.T) {
	next := pseudo()
	seen := map[int]int{}
	for range 600 {
		x := crossedTask(next)
		l, _ := layer.First(above(x))
		plan, e := layer.Layers(x, 1+next(4))
		if e != api.OK {
			plan = [][]api.Laid{l, l, l}[:next(4)]
		}
		for range next(3) {
			if len(plan) > 0 {
				i := next(len(plan))
				plan[i] = spoilt(next, x, plan[i])
			}
		}
		wantLayer, wantRule, wantAt := -1, 0, 0
		below := x
		for i, l := range plan {
			if wantRule, wantAt = modelBroken(below, l); wantRule != 0 {
				wantLayer = i
				break
			}
			below.Below = modelJoints(x, l)
		}
		if n, rule, at, e := layer.Verify(x, plan); n != wantLayer || rule != wantRule || at != wantAt || e != api.OK {
			t.Fatal(x, plan, n, rule, at, e, wantLayer, wantRule, wantAt)
		}
		seen[wantLayer]++
	}
	for i := -1; i < 3; i++ {
		if seen[i] < 10 {
			t.Error("seldom tried", i, seen)
		}
	}
}

// P7.9: which brick is laid after which.
func TestOrder(t *testing.T) {
	row := task("fffff", []int{5}, "f")
	l := bricks(laid(0, 0, 0, 0), laid(0, 0, 1, 0), laid(0, 0, 2, 0), laid(0, 0, 3, 0), laid(0, 0, 4, 0))
	// Two cells, three cells that are joined to them at a corner only, and one more beside these.
	apart := task("00fff/ff000", []int{5}, "f")
	far := bricks(laid(0, 0, 0, 0), laid(0, 0, 1, 0), laid(0, 0, 2, 1), laid(0, 0, 3, 1), laid(0, 0, 4, 1))
	for i, c := range []struct {
		t                 api.Task
		l                 []api.Laid
		first, last, want []int
		e                 api.Errno
	}{
		{row, l, nil, nil, []int{0, 1, 2, 3, 4}, api.OK},
		{row, l, []int{2}, nil, []int{2, 1, 0, 3, 4}, api.OK},
		{row, l, []int{4}, nil, []int{4, 3, 2, 1, 0}, api.OK},
		{row, l, []int{4, 0}, nil, []int{4, 0, 1, 2, 3}, api.OK},
		{row, l, []int{4, 0}, []int{1}, []int{4, 0, 3, 2, 1}, api.OK},
		{row, l, []int{4, 1}, []int{3, 0}, []int{4, 1, 2, 3, 0}, api.OK},
		{row, l, nil, []int{0, 1}, []int{2, 3, 4, 0, 1}, api.OK},
		{row, l, nil, []int{1, 0}, []int{2, 3, 4, 1, 0}, api.OK},
		{row, l, nil, []int{2}, []int{0, 1, 3, 4, 2}, api.OK},
		{row, l, nil, []int{1, 3}, []int{0, 2, 4, 1, 3}, api.OK},
		{row, l, []int{3}, []int{2}, []int{3, 4, 0, 1, 2}, api.OK},
		{row, l, []int{0, 1, 2, 3, 4}, nil, []int{0, 1, 2, 3, 4}, api.OK},
		{row, l, nil, []int{4, 3, 2, 1, 0}, []int{4, 3, 2, 1, 0}, api.OK},
		{row, l, []int{3, 1}, []int{4, 2, 0}, []int{3, 1, 4, 2, 0}, api.OK},
		{apart, far, nil, nil, []int{0, 1, 2, 3, 4}, api.OK},
		{apart, far, []int{3}, nil, []int{3, 2, 4, 0, 1}, api.OK},
		{apart, far, []int{4}, []int{0}, []int{4, 3, 2, 1, 0}, api.OK},
		{two(), east(), nil, nil, []int{0, 1}, api.OK},
		{two(), turned(), []int{1}, nil, []int{1, 0}, api.OK},
		{row, l, []int{5}, nil, nil, api.ErrNone},
		{row, l, []int{-1}, nil, nil, api.ErrNone},
		{row, l, nil, []int{5}, nil, api.ErrNone},
		{row, l, nil, []int{math.MinInt}, nil, api.ErrNone},
		{row, l, []int{math.MaxInt}, nil, nil, api.ErrNone},
		{row, l, []int{1, 1}, nil, nil, api.ErrTwice},
		{row, l, nil, []int{1, 1}, nil, api.ErrTwice},
		{row, l, []int{1}, []int{1}, nil, api.ErrTwice},
		// Number by number: the first one with an error decides.
		{row, l, []int{1, 1, 7}, nil, nil, api.ErrTwice},
		{row, l, []int{7, 1, 1}, nil, nil, api.ErrNone},
		{row, l, []int{1, 7, 1}, nil, nil, api.ErrNone},
		{row, l, []int{1, 1}, []int{7}, nil, api.ErrTwice},
		{row, l, []int{1, 7}, []int{1}, nil, api.ErrNone},
		{row, l, []int{7, 7}, nil, nil, api.ErrNone},
		{row, l, []int{0, 1, 2}, []int{3, 2, 9}, nil, api.ErrTwice},
		{row, l, []int{0, 1, 2}, []int{3, 9, 2}, nil, api.ErrNone},
		{row, l, []int{0, 1, 2, 3, 4, 0}, nil, nil, api.ErrTwice},
		{row, l, make([]int, 1<<16), nil, nil, api.ErrTwice},
		// No tiling comes ahead of numbers, and too many bricks ahead of that.
		{row, l[1:], []int{9}, nil, nil, api.ErrState},
		{row, nil, nil, nil, nil, api.ErrState},
		{above(row, edge(1, 0, 5)), l, nil, nil, nil, api.ErrState},
		{row, make([]api.Laid, 17), []int{9}, nil, nil, api.ErrLong},
	} {
		sound(t, c.t)
		if got, e := layer.Order(c.t, c.l, c.first, c.last); !slices.Equal(got, c.want) || e != c.e {
			t.Error(i, got, e)
		}
	}
}

// P7.9, P7.14: orders are those of the model, and on a connected ground each brick is joined to one before it.
func TestOrderLikeModel(t *testing.T) {
	next := pseudo()
	for range 1500 {
		x, l := tiledTask(next, 4, 3)
		slices.SortFunc(l, func(a, b api.Laid) int {
			return modelCompareQuarters(quartersOf(x, a)[0], quartersOf(x, b)[0])
		})
		var numbers []int
		for i := range l {
			numbers = slices.Insert(numbers, next(len(numbers)+1), i)
		}
		i := next(len(l) + 1)
		first, last := numbers[:i/2], numbers[i/2:i]
		got, e := layer.Order(x, l, first, last)
		if want := modelOrder(x, l, first, last); !slices.Equal(got, want) || e != api.OK {
			t.Fatal(x, l, first, last, got, want, e)
		}
		order, e := layer.Order(x, l, nil, nil)
		if e != api.OK || !same(order, modelOrder(x, l, nil, nil)) {
			t.Fatal(x, l, order, e)
		}
		if connected(x.Ground) {
			joined(t, x, l, order)
		}
	}
}
