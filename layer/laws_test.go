package layer_test

import (
	"slices"
	"testing"

	"chiti/api"
	"chiti/brick"
	"chiti/layer"
)

func connected(s []api.Quarter) bool {
	pieces, _ := brick.Pieces(s)
	return len(pieces) == 1
}

// joined tests whether each brick but the first has a joint with one before it.
func joined(t *testing.T, x api.Task, l []api.Laid, order []int) {
	t.Helper()
	for i, number := range order {
		isJoined := func(j int) bool { return len(modelBetween(x, l[j], l[number])) > 0 }
		if i > 0 && !slices.ContainsFunc(order[:i], isJoined) {
			t.Error("laid alone", x, l, order, i)
		}
	}
}

// P7.10, P7.11: tilings of grounds with many cells have each quarter once, and come one after another.
func TestLawsOfTilings(t *testing.T) {
	next := pseudo()
	tried := 0
	for range 250 {
		x, _ := tiledTask(next, 4, 4)
		all, unlike, _, e := layer.Count(x)
		if e != api.OK || all > 60 {
			continue
		}
		tried++
		list := tilings(t, x, all+1)
		if len(list) != all || all > 8*unlike || unlike > all || all == 0 {
			t.Error(x, len(list), all, unlike)
		}
		laidOnes := modelLaid(x)
		for i, l := range list {
			var quarters []api.Quarter
			for _, b := range l {
				quarters = append(quarters, quartersOf(x, b)...)
			}
			slices.SortFunc(quarters, modelCompareQuarters)
			if !slices.Equal(quarters, x.Ground) || !slices.Equal(counted(x, l).Counts, x.Counts) {
				t.Error("not each quarter once, or other counts", x, l)
			}
			isLater := func(a, b []api.Laid) bool {
				for k := range a {
					if a[k] != b[k] {
						return slices.Index(laidOnes, a[k]) < slices.Index(laidOnes, b[k])
					}
				}
				return false
			}
			if i > 0 && !isLater(list[i-1], l) {
				t.Error("not later", x, list[i-1], l)
			}
			if rule, at, e := layer.Covers(x, l); rule != 0 || at != 0 || e != api.OK {
				t.Error(x, l, rule, at, e)
			}
		}
	}
	if tried < 60 {
		t.Error("only so many were tried:", tried)
	}
}

// P7.13: if there is a reason, or weights refute a task, there is no tiling.
func TestLawsOfRefusals(t *testing.T) {
	next := pseudo()
	for range 1500 {
		x, _ := someTask(next, 3, 2)
		weights := make([]int, len(x.Ground))
		for i := range weights {
			weights[i] = next(5) - 2
		}
		is, e := layer.Refutes(x, weights)
		why, f := layer.Why(x)
		if e != api.OK || f != api.OK && f != api.ErrState && f != api.ErrFull {
			t.Fatal(x, e, f)
		}
		if l, e := layer.First(x); (is || why != 0) && (len(l) > 0 || e != api.ErrNone && e != api.ErrFull) || f == api.ErrState && e != api.OK {
			t.Error(x, is, why, l, e)
		}
	}
}

// The quarters of a brick are those of brick.Put, also in the model.
func TestQuarters(t *testing.T) {
	next := pseudo()
	for range 300 {
		x, _ := tiledTask(next, 3, 2)
		for _, b := range modelLaid(x) {
			if s, e := brick.Put(x.Kinds[b.Kind], b.Place); !slices.Equal(s, quartersOf(x, b)) || e != api.OK {
				t.Fatal(x, b, s, e)
			}
		}
	}
}

// The examples of the chapter, and that of the document.
func TestExamples(t *testing.T) {
	first, e := layer.First(two())
	second, f := layer.Next(two(), first)
	if !slices.Equal(first, east()) || !slices.Equal(second, turned()) || e != api.OK || f != api.OK {
		t.Error(first, second, e, f)
	}
	if all, unlike, nodes, e := layer.Count(two()); all != 2 || unlike != 1 || nodes != 5 || e != api.OK {
		t.Error(all, unlike, nodes, e)
	}
	joints, _ := layer.Joints(two(), east())
	if l, e := layer.First(above(two(), joints...)); !slices.Equal(l, turned()) || e != api.OK {
		t.Error(l, e)
	}
	if plan, e := layer.Layers(two(), 2); !same(plan, [][]api.Laid{east(), turned()}) || e != api.OK {
		t.Error(plan, e)
	}
	opposite := task("f0/0f", []int{1}, "ff")
	if why, e := layer.Why(opposite); why != api.ReasonTree || e != api.OK {
		t.Error(why, e)
	}
	if is, e := layer.Refutes(opposite, make([]int, 8)); !is || e != api.OK {
		t.Error(is, e)
	}
	if all, unlike, _, e := layer.Count(task("fff", []int{1, 1}, "ff", "f")); all != 2 || unlike != 1 || e != api.OK {
		t.Error(all, unlike, e)
	}
	if why, e := layer.Why(task("fff", []int{1, 3}, "ff", "f")); why != api.ReasonArea || e != api.OK {
		t.Error(why, e)
	}
}
