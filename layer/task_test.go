package layer_test

import (
	"math"
	"slices"
	"testing"

	"chiti/api"
	"chiti/layer"
)

// belowAll returns the first so many edges of the grid in ascending order.
func belowAll(count int) []api.Edge {
	var l []api.Edge
	for i := range count {
		l = append(l, edge(i/6%17, i/6/17, i%6))
	}
	return l
}

// P7.1: what a task may be, and what it may not.
func TestCheck(t *testing.T) {
	for i, c := range []struct {
		change func(t *api.Task)
		ok     bool
	}{
		{func(t *api.Task) {}, true},
		{func(t *api.Task) { *t = api.Task{} }, false},

		{func(t *api.Task) { t.Ground = nil }, false},
		{func(t *api.Task) { t.Ground = full(1) }, true},
		{func(t *api.Task) { t.Ground = full(64) }, true},
		{func(t *api.Task) { t.Ground = full(65) }, false},
		{func(t *api.Task) { t.Ground = full(401) }, false},
		{func(t *api.Task) { t.Ground = []api.Quarter{quarter(15, 15, 3)} }, true},
		{func(t *api.Task) { t.Ground = []api.Quarter{quarter(16, 15, 3)} }, false},
		{func(t *api.Task) { t.Ground = []api.Quarter{quarter(-1, 15, 3)} }, false},
		{func(t *api.Task) { t.Ground = []api.Quarter{quarter(15, 15, 4)} }, false},
		{func(t *api.Task) { t.Ground = []api.Quarter{quarter(1, 1, 1), quarter(1, 1, 1)} }, false},
		{func(t *api.Task) { t.Ground = []api.Quarter{quarter(0, 1, 1), quarter(1, 0, 1)} }, false},
		{func(t *api.Task) { t.Ground = []api.Quarter{quarter(1, 0, 1), quarter(0, 1, 1)} }, true},

		{func(t *api.Task) { t.Kinds, t.Counts = nil, nil }, false},
		{func(t *api.Task) { t.Kinds, t.Counts = [][]api.Quarter{}, []int{} }, false},
		{func(t *api.Task) { t.Kinds, t.Counts = slices.Repeat(t.Kinds, 8), make([]int, 8) }, true},
		{func(t *api.Task) { t.Kinds, t.Counts = slices.Repeat(t.Kinds, 9), make([]int, 9) }, false},
		{func(t *api.Task) { t.Kinds = [][]api.Quarter{nil} }, false},
		{func(t *api.Task) { t.Kinds, t.Counts = append(t.Kinds, nil), []int{2, 0} }, false},
		{func(t *api.Task) { t.Kinds[0] = full(16) }, true},
		{func(t *api.Task) { t.Kinds[0] = full(17) }, false},
		{func(t *api.Task) { t.Kinds[0] = full(401) }, false},
		{func(t *api.Task) { t.Kinds[0] = []api.Quarter{quarter(0, 0, 2), quarter(0, 0, 1)} }, false},
		{func(t *api.Task) { t.Kinds[0] = []api.Quarter{quarter(0, -1, 0)} }, false},
		{func(t *api.Task) { t.Kinds[0] = []api.Quarter{quarter(0, 0, 0), quarter(15, 15, 3)} }, true},

		{func(t *api.Task) { t.Counts = nil }, false},
		{func(t *api.Task) { t.Counts = []int{1, 1} }, false},
		{func(t *api.Task) { t.Kinds = append(t.Kinds, t.Kinds[0]) }, false},
		{func(t *api.Task) { t.Counts = []int{0} }, true},
		{func(t *api.Task) { t.Counts = []int{-1} }, false},
		{func(t *api.Task) { t.Counts = []int{math.MinInt} }, false},
		{func(t *api.Task) { t.Counts = []int{16} }, true},
		{func(t *api.Task) { t.Counts = []int{17} }, false},
		{func(t *api.Task) { t.Counts = []int{math.MaxInt} }, false},
		{func(t *api.Task) { t.Kinds, t.Counts = slices.Repeat(t.Kinds, 8), slices.Repeat([]int{2}, 8) }, true},
		{func(t *api.Task) {
			t.Kinds, t.Counts = slices.Repeat(t.Kinds, 8), append(slices.Repeat([]int{2}, 7), 3)
		}, false},
		{func(t *api.Task) { t.Kinds, t.Counts = slices.Repeat(t.Kinds, 2), []int{17, -1} }, false},
		{func(t *api.Task) {
			t.Kinds, t.Counts = slices.Repeat(t.Kinds, 4), []int{math.MaxInt, math.MaxInt, 2, 2}
		}, false},
		{func(t *api.Task) { t.Kinds, t.Counts = slices.Repeat(t.Kinds, 4), slices.Repeat([]int{1 << 62}, 4) }, false},

		{func(t *api.Task) { t.Fixed = []api.Laid{} }, true},
		{func(t *api.Task) { t.Fixed = make([]api.Laid, 16) }, true},
		{func(t *api.Task) { t.Fixed = make([]api.Laid, 17) }, false},
		{func(t *api.Task) { t.Fixed = bricks(laid(-1, math.MinInt, math.MaxInt, 99)) }, true},

		{func(t *api.Task) { t.Below = []api.Edge{} }, true},
		{func(t *api.Task) { t.Below = belowAll(400) }, true},
		{func(t *api.Task) { t.Below = belowAll(401) }, false},
		{func(t *api.Task) { t.Below = belowAll(17 * 17 * 6)[17*17*6-400:] }, true},
		{func(t *api.Task) { t.Below = edges(edge(0, 0, 0)) }, true},
		{func(t *api.Task) { t.Below = edges(edge(16, 16, 5)) }, true},
		{func(t *api.Task) { t.Below = edges(edge(17, 16, 5)) }, false},
		{func(t *api.Task) { t.Below = edges(edge(16, 17, 5)) }, false},
		{func(t *api.Task) { t.Below = edges(edge(16, 16, 6)) }, false},
		{func(t *api.Task) { t.Below = edges(edge(-1, 0, 0)) }, false},
		{func(t *api.Task) { t.Below = edges(edge(0, -1, 0)) }, false},
		{func(t *api.Task) { t.Below = edges(edge(0, 0, -1)) }, false},
		{func(t *api.Task) { t.Below = edges(edge(3, 2, 1), edge(3, 2, 1)) }, false},
		{func(t *api.Task) { t.Below = edges(edge(3, 2, 1), edge(3, 2, 2)) }, true},
		{func(t *api.Task) { t.Below = edges(edge(3, 2, 2), edge(3, 2, 1)) }, false},
		{func(t *api.Task) { t.Below = edges(edge(3, 2, 5), edge(4, 2, 0)) }, true},
		{func(t *api.Task) { t.Below = edges(edge(4, 2, 0), edge(3, 2, 5)) }, false},
		{func(t *api.Task) { t.Below = edges(edge(16, 2, 5), edge(0, 3, 0)) }, true},
		{func(t *api.Task) { t.Below = edges(edge(0, 3, 0), edge(16, 2, 5)) }, false},
		{func(t *api.Task) { t.Below = edges(edge(1, 1, 1), edge(2, 1, 1), edge(2, 1, 0)) }, false},
	} {
		x := two()
		c.change(&x)
		want := api.ErrArg
		if c.ok {
			want = api.OK
		}
		if e := layer.Check(x); e != want {
			t.Error(i, e)
		}
		// The error comes first in all functions, also ahead of those of other arguments.
		for name, o := range outcomes(x, make([]api.Laid, 17), [][]api.Laid{make([]api.Laid, 17)}, 0, nil, []int{-1}, []int{-1}) {
			if (o.e == api.ErrArg) == c.ok {
				t.Error(i, name, o)
			}
		}
	}
}

// P7.2: rules in their order, and where each is broken first.
func TestCovers(t *testing.T) {
	mixed := fixed(task("ff/ff", []int{1, 2}, "ff", "f"), laid(1, 0, 1, 1))
	squares := task("fff", []int{3}, "f")
	row := bricks(laid(0, 0, 0, 0), laid(0, 0, 1, 0), laid(0, 0, 2, 0))
	halves := task("f", []int{2}, "3")
	for i, c := range []struct {
		t        api.Task
		l        []api.Laid
		rule, at int
	}{
		{two(), east(), 0, 0},
		{two(), turned(), 0, 0},
		{squares, row, 0, 0},
		// 1: no such kind, no such place, and places that are not the first one for their quarters.
		{two(), bricks(laid(-1, 0, 0, 0), laid(0, 0, 0, 1)), 1, 0},
		{two(), bricks(laid(0, 0, 0, 0), laid(1, 0, 0, 1)), 1, 1},
		{two(), bricks(laid(0, 0, 0, 0), laid(math.MaxInt, 0, 0, 1)), 1, 1},
		{two(), bricks(laid(0, 0, 0, 0), laid(0, 2, 0, 1)), 1, 1},
		{two(), bricks(reflected(0, 0, 0, 0), laid(0, 0, 0, 1)), 1, 0},
		{two(), bricks(laid(0, 4, 0, 0), laid(0, 0, 0, 1)), 1, 0},
		{two(), bricks(laid(0, -1, 0, 0)), 1, 0},
		{two(), bricks(laid(0, 0, 1, 0), laid(9, 0, 0, 0)), 1, 0},
		{two(), bricks(laid(0, 0, 0, 2)), 1, 0},
		{two(), bricks(laid(0, 0, 0, 1), laid(0, 0, 0, 0), laid(0, 0, -1, 0)), 1, 2},
		{task("36", []int{1}, "36"), bricks(laid(0, 0, 0, 0)), 0, 0},
		{task("36", []int{1}, "39"), bricks(laid(0, 0, 0, 0)), 1, 0},
		// 2: in the order of least quarters, each once.
		{two(), bricks(laid(0, 0, 0, 1), laid(0, 0, 0, 0)), 2, 1},
		{two(), bricks(laid(0, 1, 1, 0), laid(0, 1, 0, 0)), 2, 1},
		{two(), bricks(laid(0, 0, 0, 0), laid(0, 0, 0, 0)), 2, 1},
		{two(), bricks(laid(0, 0, 0, 0), laid(0, 1, 0, 0)), 2, 1},
		{squares, bricks(laid(0, 0, 0, 0), laid(0, 0, 2, 0), laid(0, 0, 1, 0), laid(0, 0, 0, 0)), 2, 2},
		{halves, bricks(laid(0, 0, 0, 0), laid(0, 1, 0, 0)), 2, 1},
		{halves, bricks(laid(0, 3, 0, 0), laid(0, 1, 0, 0)), 2, 1},
		{halves, bricks(laid(0, 0, 0, 0), laid(0, 2, 0, 0)), 0, 0},
		{halves, bricks(laid(0, 1, 0, 0), laid(0, 3, 0, 0)), 0, 0},
		// 3: what two bricks have in common.
		{two(), bricks(laid(0, 0, 0, 0), laid(0, 1, 1, 0)), 3, 1},
		{two(), bricks(laid(0, 1, 0, 0), laid(0, 1, 1, 0), laid(0, 0, 0, 1)), 3, 2},
		{halves, bricks(laid(0, 0, 0, 0), laid(0, 3, 0, 0)), 3, 1},
		{halves, bricks(laid(0, 0, 0, 0), laid(0, 3, 0, 0), laid(0, 2, 0, 0)), 3, 1},
		{halves, bricks(laid(0, 1, 0, 0), laid(0, 3, 0, 0), laid(0, 2, 0, 0)), 3, 2},
		// 4: the first quarter that is not covered.
		{two(), nil, 4, 0},
		{two(), bricks(laid(0, 0, 0, 0)), 4, 8},
		{two(), bricks(laid(0, 0, 0, 1)), 4, 0},
		{two(), bricks(laid(0, 1, 0, 0)), 4, 4},
		{two(), bricks(laid(0, 1, 1, 0)), 4, 0},
		{halves, bricks(laid(0, 1, 0, 0)), 4, 1},
		{halves, bricks(laid(0, 0, 0, 0)), 4, 2},
		{fixed(squares, laid(7, 7, 7, 7)), row[:2], 4, 8},
		// 5: the first kind with too many or too few.
		{task("fff", []int{2}, "f"), row, 5, 0},
		{task("fff", []int{4}, "f"), row, 5, 0},
		{task("fff", []int{3, 1, 1}, "f", "f", "ff"), row, 5, 1},
		{task("fff", []int{3, 0, 1}, "f", "f", "ff"), row, 5, 2},
		{task("fff", []int{2, 1}, "f", "f"), row, 5, 0},
		{task("fff", []int{2, 1}, "f", "f"), bricks(laid(0, 0, 0, 0), laid(1, 0, 1, 0), laid(0, 0, 2, 0)), 0, 0},
		{fixed(task("fff", []int{0}, "f"), laid(7, 7, 7, 7)), row, 5, 0},
		// 6: the first fixed brick that is not there, also if it could not be.
		{mixed, bricks(laid(0, 0, 0, 0), laid(1, 0, 0, 1), laid(1, 0, 1, 1)), 0, 0},
		{mixed, bricks(laid(1, 0, 0, 0), laid(1, 0, 1, 0), laid(0, 0, 0, 1)), 6, 0},
		{fixed(squares, row[2], row[0], laid(1, 0, 0, 0)), row, 6, 2},
		{fixed(squares, row[2], laid(0, 1, 0, 0), laid(1, 0, 0, 0)), row, 6, 1},
		{fixed(squares, row[2], row[0], row[0], row[1]), row, 0, 0},
		{above(fixed(squares, laid(7, 7, 7, 7)), edge(1, 0, 5)), row, 6, 0},
		// 7: the first edge below that is a joint; the border and what is inside of bricks are none.
		{above(squares, edge(1, 0, 5)), row, 7, 0},
		{above(squares, edge(0, 0, 0), edge(0, 0, 4), edge(0, 0, 5), edge(2, 0, 5)), row, 7, 3},
		{above(squares, edge(0, 0, 0), edge(0, 0, 4), edge(0, 0, 5), edge(3, 0, 5), edge(0, 1, 4)), row, 0, 0},
		{above(two(), edge(1, 0, 5), edge(1, 1, 5)), turned(), 7, 0},
		{above(two(), edge(1, 0, 5), edge(1, 1, 5)), east(), 0, 0},
		{above(two(), edge(1, 1, 5)), turned(), 7, 0},
		{above(halves, edge(0, 0, 1), edge(0, 0, 3)), bricks(laid(0, 0, 0, 0), laid(0, 2, 0, 0)), 7, 0},
		{above(halves, edge(0, 0, 0), edge(0, 0, 2)), bricks(laid(0, 0, 0, 0), laid(0, 2, 0, 0)), 0, 0},
		{above(halves, edge(0, 0, 0), edge(0, 0, 2)), bricks(laid(0, 1, 0, 0), laid(0, 3, 0, 0)), 7, 0},
	} {
		sound(t, c.t)
		rule, at, e := layer.Covers(c.t, c.l)
		if rule != c.rule || at != c.at || e != api.OK {
			t.Error(i, rule, at, e)
		}
		if rule, at := modelBroken(c.t, c.l); rule != c.rule || at != c.at {
			t.Error("the model:", i, rule, at)
		}
		want := api.ErrState
		if c.rule == 0 {
			want = api.OK
		}
		l, e := layer.Joints(c.t, c.l)
		if e != want || e != api.OK && len(l) != 0 || e == api.OK && !slices.Equal(l, modelJoints(c.t, c.l)) {
			t.Error(i, l, e)
		}
	}
}

// P7.2: joints of tilings, with sides of cells and half diagonals, in ascending order.
func TestJoints(t *testing.T) {
	for i, c := range []struct {
		t    api.Task
		l    []api.Laid
		want []api.Edge
	}{
		{task("f", []int{1}, "f"), bricks(laid(0, 0, 0, 0)), nil},
		{two(), east(), edges(edge(0, 1, 4), edge(1, 1, 4))},
		{two(), turned(), edges(edge(1, 0, 5), edge(1, 1, 5))},
		{task("f", []int{2}, "3"), bricks(laid(0, 0, 0, 0), laid(0, 2, 0, 0)), edges(edge(0, 0, 1), edge(0, 0, 3))},
		{task("f", []int{4}, "1"), bricks(laid(0, 0, 0, 0), laid(0, 3, 0, 0), laid(0, 2, 0, 0), laid(0, 1, 0, 0)), edges(edge(0, 0, 0), edge(0, 0, 1), edge(0, 0, 2), edge(0, 0, 3))},
		{task("ff/ff", []int{1, 2}, "ff", "f"), bricks(laid(0, 0, 0, 0), laid(1, 0, 0, 1), laid(1, 0, 1, 1)), edges(edge(0, 1, 4), edge(1, 1, 4), edge(1, 1, 5))},
		{task("f0/0f", []int{2}, "f"), bricks(laid(0, 0, 1, 0), laid(0, 0, 0, 1)), nil},
		// Different bricks of the same kind, and ones that are in several pieces.
		{task("ffff", []int{2}, "f0f"), bricks(laid(0, 0, 0, 0), laid(0, 0, 1, 0)), edges(edge(1, 0, 5), edge(2, 0, 5), edge(3, 0, 5))},
	} {
		sound(t, c.t)
		if l, e := layer.Joints(c.t, c.l); !same(l, c.want) || e != api.OK {
			t.Error(i, l, e)
		}
	}
}

// P7.2, P7.3: each edge of a ground is told from all others, also if there are as many as 160.
func TestManyEdges(t *testing.T) {
	row := "3333333333333333"
	x := task(row+"/0000000000000000/"+row, []int{8, 8}, "1111", "2222")
	l, e := layer.First(x)
	joints, f := layer.Joints(x, l)
	all := modelEdges(x.Ground)
	if len(l) != 16 || len(joints) != 32 || len(all) != 160 || e != api.OK || f != api.OK {
		t.Fatal(l, joints, len(all), e, f)
	}
	for _, below := range all {
		isJoint := slices.Contains(joints, below)
		rule, _, e := layer.Covers(above(x, below), l)
		if (rule == 7) != isJoint || (rule == 0) == isJoint || e != api.OK {
			t.Error(below, rule, e)
		}
		want := api.OK
		if isJoint {
			want = api.ErrNone
		}
		if _, e := layer.First(above(x, below)); e != want {
			t.Error(below, e)
		}
	}
}

// P7.2: too many bricks are an error by themselves.
func TestLongLists(t *testing.T) {
	sixteen := task("ffff/ffff/ffff/ffff", []int{16}, "f")
	l, e := layer.First(sixteen)
	if len(l) != 16 || e != api.OK {
		t.Fatal(l, e)
	}
	if rule, at, e := layer.Covers(sixteen, l); rule != 0 || at != 0 || e != api.OK {
		t.Error(rule, at, e)
	}
	for _, long := range [][]api.Laid{append(slices.Clone(l), l[15]), append(slices.Clone(l), laid(9, 9, 9, 9)), make([]api.Laid, 17), make([]api.Laid, 1<<16)} {
		if rule, at, e := layer.Covers(sixteen, long); rule != 0 || at != 0 || e != api.ErrLong {
			t.Error(rule, at, e)
		}
		if l, e := layer.Joints(sixteen, long); len(l) != 0 || e != api.ErrLong {
			t.Error(l, e)
		}
		if l, e := layer.Next(sixteen, long); len(l) != 0 || e != api.ErrLong {
			t.Error(l, e)
		}
		if l, e := layer.Order(sixteen, long, []int{-1}, nil); len(l) != 0 || e != api.ErrLong {
			t.Error(l, e)
		}
	}
	for _, l := range [][]api.Laid{make([]api.Laid, 16), l[:15], nil} {
		if _, e := layer.Joints(sixteen, l); e != api.ErrState {
			t.Error(l, e)
		}
	}
}

// spoilt returns a list that was changed in one way or another.
func spoilt(next func(n int) int, t api.Task, l []api.Laid) []api.Laid {
	l = slices.Clone(l)
	some := laid(next(3), next(4), next(5), next(5))
	if all := modelLaid(t); len(all) > 0 {
		some = all[next(len(all))]
	}
	if len(l) == 0 {
		return bricks(some)
	}
	i, j := next(len(l)), next(len(l))
	switch next(7) {
	case 0:
		l[i] = some
	case 1:
		l[i], l[j] = l[j], l[i]
	case 2:
		l = slices.Delete(l, i, i+1)
	case 3:
		l = slices.Insert(l, i, some)
	case 4:
		fields := []*int{&l[i].Kind, &l[i].Place.Turns, &l[i].Place.X, &l[i].Place.Y}
		*fields[next(4)] += 1 - 2*next(2)
	case 5:
		l[i].Place.Mirror = !l[i].Place.Mirror
	case 6:
		l[i].Kind = next(len(t.Kinds))
	}
	return l[:min(len(l), api.MaxLaid)]
}

// P7.2: the first broken rule, and the joints, are those of the model.
func TestCoversLikeModel(t *testing.T) {
	next := pseudo()
	var seen [8]int
	for range 2500 {
		x, l := someTask(next, 3, 2)
		for range next(4) {
			l = spoilt(next, x, l)
		}
		rule, at, e := layer.Covers(x, l)
		wantRule, wantAt := modelBroken(x, l)
		if rule != wantRule || at != wantAt || e != api.OK {
			t.Fatal(x, l, rule, at, wantRule, wantAt, e)
		}
		seen[rule]++
		joints, e := layer.Joints(x, l)
		if rule == 0 && (!same(joints, modelJoints(x, l)) || e != api.OK) || rule != 0 && (len(joints) != 0 || e != api.ErrState) {
			t.Fatal(x, l, joints, e)
		}
	}
	for rule, count := range seen {
		if count < 20 {
			t.Error("seldom tried", rule, count)
		}
	}
}

// P7.6: weights that refute tasks, and weights that do not.
func TestRefutes(t *testing.T) {
	ones := func(n int) []int { return slices.Repeat([]int{1}, n) }
	many := func(w, n int) []int { return slices.Repeat([]int{w}, n) }
	for i, c := range []struct {
		t       api.Task
		weights []int
		is      bool
		e       api.Errno
	}{
		{two(), ones(16), false, api.OK},
		{two(), make([]int, 16), false, api.OK},
		{two(), many(-1000, 16), false, api.OK},
		// A kind that can not be laid, if bricks of it are asked for.
		{task("f0/0f", []int{1}, "ff"), make([]int, 8), true, api.OK},
		{task("f0/0f", []int{1}, "ff"), many(1000, 8), true, api.OK},
		{task("f0/0f", []int{0, 2}, "ff", "f"), make([]int, 8), false, api.OK},
		{task("f0/0f", []int{2, 1}, "f", "ff"), many(1000, 8), true, api.OK},
		{task("f0/0f", []int{0}, "ff"), make([]int, 8), false, api.OK},
		{task("f0/0f", []int{0}, "ff"), many(-1, 8), true, api.OK},
		{task("f0/0f", []int{0}, "f"), many(1, 8), false, api.OK},
		// More and less area.
		{task("ff", []int{3}, "f"), ones(8), true, api.OK},
		{task("ff", []int{3}, "f"), many(-1, 8), false, api.OK},
		{task("ff", []int{1}, "f"), ones(8), false, api.OK},
		{task("ff", []int{1}, "f"), many(-1, 8), true, api.OK},
		{task("ff", []int{2}, "f"), ones(8), false, api.OK},
		{task("ff", []int{16}, "f"), many(1000, 8), true, api.OK},
		{task("ff", []int{16}, "f"), many(-1000, 8), false, api.OK},
		// The least weight of each kind, at any place.
		{task("ff", []int{2}, "f"), []int{1, 0, 0, 0, 0, 0, 0, 0}, false, api.OK},
		{task("ff", []int{3}, "f"), []int{-1, 0, 0, 0, 0, 0, 0, 1}, false, api.OK},
		{task("ff", []int{3}, "f"), []int{1, 0, 0, 0, 0, 0, 0, 1}, true, api.OK},
		{task("f5", []int{1, 1}, "f", "3"), []int{0, 0, 0, 0, -1, -1}, true, api.OK},
		{task("f5", []int{3}, "3"), []int{1, 1, 1, 1, -1, -1}, true, api.OK},
		{task("f5", []int{3}, "3"), make([]int, 6), false, api.OK},
		{task("f5", []int{3}, "3"), []int{1, 1, 1, 1, 1, -1}, true, api.OK},
		{task("f5", []int{3}, "3"), []int{1, 1, 1, 1, 2, 0}, false, api.OK},
		// Fixed bricks and joints play no part.
		{fixed(two(), laid(5, 5, 5, 5)), ones(16), false, api.OK},
		{fixed(task("ff", []int{2}, "f"), laid(0, 0, 1, 0)), []int{0, 0, 0, 0, 1, 1, 1, 1}, false, api.OK},
		{above(task("ff", []int{2}, "f"), edge(1, 0, 5)), ones(8), false, api.OK},
		{two(), nil, false, api.ErrForm},
		{two(), ones(15), false, api.ErrForm},
		{two(), ones(17), false, api.ErrForm},
		{two(), append(ones(15), 1000), false, api.OK},
		{two(), append(ones(15), 1001), false, api.ErrForm},
		{two(), append(ones(15), -1000), false, api.OK},
		{two(), append(ones(15), -1001), false, api.ErrForm},
		{two(), append([]int{math.MaxInt}, ones(15)...), false, api.ErrForm},
		{two(), append([]int{math.MinInt}, ones(15)...), false, api.ErrForm},
		{task("f0/0f", []int{1}, "ff"), ones(9), false, api.ErrForm},
	} {
		sound(t, c.t)
		if is, e := layer.Refutes(c.t, c.weights); is != c.is || e != c.e {
			t.Error(i, is, e)
		}
	}
}

// P7.6, P7.13: weights refute what they refute in the model, and never a task with a tiling.
func TestRefutesLikeModel(t *testing.T) {
	next := pseudo()
	refuted := 0
	for range 2500 {
		x, _ := someTask(next, 3, 2)
		if next(3) == 0 {
			x.Ground = someGround(next, 3, 2)
		}
		weights := make([]int, len(x.Ground))
		most := []int{1, 3, api.MaxProof}[next(3)]
		for i := range weights {
			weights[i] = next(2*most+1) - most
		}
		is, e := layer.Refutes(x, weights)
		if is != modelRefutes(x, weights) || e != api.OK {
			t.Fatal(x, weights, is, e)
		}
		if is {
			refuted++
			if l, e := layer.First(x); len(l) != 0 || e == api.OK {
				t.Fatal("there is a tiling", x, weights, l)
			}
		}
	}
	if refuted < 100 {
		t.Error("only so many are refuted:", refuted)
	}
}
