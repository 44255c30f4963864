package area_test

import (
	"maps"
	"math"
	"math/big"
	"slices"
	"testing"

	"chiti/api"
	"chiti/area"
)

// P4.8: the fewest operations, the smallest list first.
func TestWays(t *testing.T) {
	for _, c := range []struct {
		from, to [2]int
		most     int
		want     []api.AreaOp
	}{
		{[2]int{1, 1}, [2]int{1, 1}, 0, nil},
		{[2]int{7, 2}, [2]int{7, 2}, 10, nil},
		{[2]int{1, 1}, [2]int{2, 1}, 1, []api.AreaOp{1}},
		{[2]int{1, 1}, [2]int{1, 2}, 1, []api.AreaOp{2}},
		{[2]int{1, 1}, [2]int{3, 1}, 1, []api.AreaOp{3}},
		{[2]int{1, 1}, [2]int{1, 3}, 1, []api.AreaOp{4}},
		{[2]int{3, 2}, [2]int{1, 2}, 1, []api.AreaOp{4}},
		{[2]int{5, 2}, [2]int{7, 2}, 1, []api.AreaOp{5}},
		{[2]int{5, 2}, [2]int{3, 2}, 1, []api.AreaOp{6}},
		{[2]int{3, 2}, [2]int{1, 2}, 10, []api.AreaOp{4}},
		{[2]int{2, 1}, [2]int{1, 1}, 10, []api.AreaOp{2}},
		{[2]int{2, 1}, [2]int{3, 1}, 10, []api.AreaOp{5}},
		{[2]int{1, 1}, [2]int{3, 4}, 3, []api.AreaOp{2, 2, 3}},
		{[2]int{1, 1}, [2]int{3, 4}, 10, []api.AreaOp{2, 2, 3}},
		{[2]int{1, 1}, [2]int{5, 4}, 4, []api.AreaOp{2, 2, 5}},
		// At the limits.
		{[2]int{300, 1}, [2]int{150, 1}, 1, []api.AreaOp{2}},
		{[2]int{150, 1}, [2]int{300, 1}, 1, []api.AreaOp{1}},
		{[2]int{1, 150}, [2]int{1, 300}, 1, []api.AreaOp{2}},
		{[2]int{1, 300}, [2]int{1, 100}, 1, []api.AreaOp{3}},
		{[2]int{100, 1}, [2]int{300, 1}, 1, []api.AreaOp{3}},
		{[2]int{1, 100}, [2]int{1, 300}, 1, []api.AreaOp{4}},
		{[2]int{299, 1}, [2]int{300, 1}, 1, []api.AreaOp{5}},
		{[2]int{1, 299}, [2]int{300, 299}, 1, []api.AreaOp{5}},
		{[2]int{300, 299}, [2]int{1, 299}, 1, []api.AreaOp{6}},
		{[2]int{300, 1}, [2]int{299, 1}, 1, []api.AreaOp{6}},
		// It is in lowest terms that numbers are small enough.
		{[2]int{299, 2}, [2]int{299, 1}, 1, []api.AreaOp{1}},
		{[2]int{200, 3}, [2]int{200, 1}, 1, []api.AreaOp{3}},
		{[2]int{2, 299}, [2]int{1, 299}, 1, []api.AreaOp{2}},
		{[2]int{3, 200}, [2]int{1, 200}, 1, []api.AreaOp{4}},
	} {
		l, e := area.Ways(c.from, c.to, c.most)
		if !slices.Equal(l, c.want) || e != api.OK {
			t.Error(c, l, e)
		}
	}
}

// P4.8: what Ways refuses, and in which order.
func TestWaysErrors(t *testing.T) {
	good := [2]int{1, 1}
	for _, bad := range [][2]int{{}, {0, 1}, {1, 0}, {-1, 1}, {1, -1}, {-1, -1}, {301, 1}, {1, 301}, {2, 2}, {2, 4}, {4, 2}, {300, 300}, {299, 13}, {15, 9}, {math.MaxInt, 1}, {1, math.MaxInt}, {math.MinInt, 1}, {1, math.MinInt}, {math.MinInt, math.MinInt}} {
		for _, most := range []int{-1, 0, 10, 11} {
			for _, pair := range [][2][2]int{{bad, good}, {good, bad}, {bad, bad}} {
				if l, e := area.Ways(pair[0], pair[1], most); len(l) != 0 || e != api.ErrArg {
					t.Error(pair, most, l, e)
				}
			}
		}
	}
	for _, c := range []struct {
		from, to [2]int
		most     int
		e        api.Errno
	}{
		{good, good, -1, api.ErrRange},
		{good, good, 11, api.ErrRange},
		{good, good, math.MaxInt, api.ErrRange},
		{good, good, math.MinInt, api.ErrRange},
		{good, [2]int{299, 298}, 11, api.ErrRange},
		{good, [2]int{299, 298}, 10, api.ErrNone},
		{good, [2]int{2, 1}, 0, api.ErrNone},
		{good, [2]int{3, 4}, 2, api.ErrNone},
		{[2]int{151, 1}, [2]int{150, 1}, 0, api.ErrNone},
		{[2]int{1, 151}, [2]int{1, 150}, 10, api.ErrNone},
		{[2]int{1, 300}, [2]int{300, 1}, 10, api.ErrNone},
	} {
		if l, e := area.Ways(c.from, c.to, c.most); len(l) != 0 || e != c.e {
			t.Error(c, l, e)
		}
	}
}

// operated returns what an operation makes of an area, as the chapter tells it, and whether it can be made.
func operated(r *big.Rat, op api.AreaOp) (*big.Rat, bool) {
	one, made := big.NewRat(1, 1), new(big.Rat)
	switch op {
	case api.AreaDouble:
		made.Mul(r, big.NewRat(2, 1))
	case api.AreaHalve:
		made.Mul(r, big.NewRat(1, 2))
	case api.AreaTriple:
		made.Mul(r, big.NewRat(3, 1))
	case api.AreaThird:
		made.Mul(r, big.NewRat(1, 3))
	case api.AreaAdd:
		made.Add(r, one)
	case api.AreaLess:
		made.Sub(r, one)
	}
	limit := big.NewInt(api.MaxPart)
	return made, made.Sign() > 0 && made.Num().Cmp(limit) <= 0 && made.Denom().Cmp(limit) <= 0
}

func pairOf(r *big.Rat) [2]int { return [2]int{int(r.Num().Int64()), int(r.Denom().Int64())} }

// firstLists returns, for each area that up to so many operations lead to, the first list of them, among all lists, the shorter ones first.
func firstLists(from [2]int, most int) map[[2]int][]api.AreaOp {
	type trail struct {
		area *big.Rat
		ops  []api.AreaOp
	}
	lists := map[[2]int][]api.AreaOp{from: nil}
	trails := []trail{{area: big.NewRat(int64(from[0]), int64(from[1]))}}
	for range most {
		var longer []trail
		for _, t := range trails {
			for op := api.AreaDouble; op <= api.AreaLess; op++ {
				made, can := operated(t.area, op)
				if !can {
					continue
				}
				ops := append(slices.Clone(t.ops), op)
				longer = append(longer, trail{made, ops})
				if _, before := lists[pairOf(made)]; !before {
					lists[pairOf(made)] = ops
				}
			}
		}
		trails = longer
	}
	return lists
}

func sortedPairs[V any](m map[[2]int]V) [][2]int {
	return slices.SortedFunc(maps.Keys(m), func(a, b [2]int) int { return slices.Compare(a[:], b[:]) })
}

// P4.8 and P4.11: of all lists of up to four operations, Ways has the first one among the shortest.
func TestWaysAmongAllLists(t *testing.T) {
	count := 0
	for _, from := range [][2]int{{1, 1}, {1, 2}, {2, 3}, {3, 2}, {7, 5}, {5, 12}, {12, 7}, {300, 1}, {1, 300}, {299, 300}, {300, 299}, {149, 150}, {100, 99}, {75, 298}, {4, 9}, {50, 77}, {128, 81}, {31, 10}} {
		lists := firstLists(from, 4)
		for _, to := range sortedPairs(lists) {
			want := lists[to]
			for _, most := range []int{len(want), 10} {
				if l, e := area.Ways(from, to, most); !slices.Equal(l, want) || e != api.OK {
					t.Error(from, to, most, l, e, want)
				}
			}
			if len(want) > 0 {
				if l, e := area.Ways(from, to, len(want)-1); len(l) != 0 || e != api.ErrNone {
					t.Error(from, to, l, e, want)
				}
			}
			count++
		}
	}
	if count < 2000 {
		t.Error("only so many were tried:", count)
	}
}

// distances returns how many operations lead from areas to one: as many as from it to them, since each one can be undone by another one.
func distances(to [2]int) map[[2]int]int {
	far := map[[2]int]int{to: 0}
	level := [][2]int{to}
	for n := 1; n <= api.MaxWay; n++ {
		var next [][2]int
		for _, r := range level {
			for op := api.AreaDouble; op <= api.AreaLess; op++ {
				made, can := operated(big.NewRat(int64(r[0]), int64(r[1])), op)
				if _, before := far[pairOf(made)]; can && !before {
					far[pairOf(made)] = n
					next = append(next, pairOf(made))
				}
			}
		}
		level = next
	}
	return far
}

// P4.8 and P4.11: the longest lists, step by step: each operation can be made, and is the smallest one that leads nearer.
func TestLongWays(t *testing.T) {
	next := pseudo()
	seen := map[int]int{}
	for _, to := range [][2]int{{1, 1}, {3, 7}, {22, 7}, {256, 243}, {299, 298}, {1, 300}} {
		far := distances(to)
		for _, from := range sortedPairs(far) {
			if next(1+len(far)/400) > 0 {
				continue
			}
			want := wayBy(far, from)
			seen[len(want)]++
			if l, e := area.Ways(from, to, api.MaxWay); !slices.Equal(l, want) || e != api.OK {
				t.Error(from, to, l, e, want)
			}
			if l, e := area.Ways(from, to, far[from]-1); far[from] > 0 && (len(l) != 0 || e != api.ErrNone) {
				t.Error(from, to, l, e, want)
			}
		}
		unreached(t, next, far, to)
	}
	if seen[10] < 100 || seen[9] < 100 || seen[8] < 100 {
		t.Error("only so many long ones were tried:", seen)
	}
}

// wayBy returns the smallest shortest list from an area to that to which the distances are known.
func wayBy(far map[[2]int]int, from [2]int) []api.AreaOp {
	var l []api.AreaOp
	for left := far[from]; left > 0; left-- {
		for op := api.AreaDouble; op <= api.AreaLess; op++ {
			made, can := operated(big.NewRat(int64(from[0]), int64(from[1])), op)
			if n, known := far[pairOf(made)]; can && known && n == left-1 {
				l, from = append(l, op), pairOf(made)
				break
			}
		}
	}
	return l
}

// unreached tries areas from which more operations would be needed.
func unreached(t *testing.T, next func(n int) int, far map[[2]int]int, to [2]int) {
	t.Helper()
	for tries := 0; tries < 50; {
		from := pairOf(big.NewRat(int64(1+next(api.MaxPart)), int64(1+next(api.MaxPart))))
		if _, known := far[from]; known {
			continue
		}
		tries++
		if l, e := area.Ways(from, to, api.MaxWay); len(l) != 0 || e != api.ErrNone {
			t.Error(from, to, l, e)
		}
	}
}
