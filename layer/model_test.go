package layer_test

import (
	"cmp"
	"slices"

	"chiti/api"
	"chiti/brick"
)

// The model follows the chapter word by word, with lists of quarters and of edges.

// modelLaid returns all bricks that are laid in a task, in order.
func modelLaid(t api.Task) []api.Laid {
	var l []api.Laid
	for kind, s := range t.Kinds {
		places, _ := brick.Places(s, t.Ground)
		for _, p := range places {
			l = append(l, api.Laid{Kind: kind, Place: p})
		}
	}
	return l
}

// quartersOf returns the quarters of a brick of a kind that there is: those of brick.Put, which would be too slow for a model.
func quartersOf(t api.Task, l api.Laid) []api.Quarter {
	s := slices.Clone(t.Kinds[l.Kind])
	least := quarter(99, 99, 0)
	for i, q := range s {
		if l.Place.Mirror {
			q = quarter(-q.X, q.Y, (4-q.Side)%4)
		}
		for range l.Place.Turns {
			q = quarter(-q.Y, q.X, (q.Side+3)%4)
		}
		s[i] = q
		least.X, least.Y = min(least.X, q.X), min(least.Y, q.Y)
	}
	for i := range s {
		s[i].X += l.Place.X - least.X
		s[i].Y += l.Place.Y - least.Y
	}
	slices.SortFunc(s, modelCompareQuarters)
	return s
}

func modelCompareQuarters(a, b api.Quarter) int {
	return cmp.Or(cmp.Compare(a.Y, b.Y), cmp.Compare(a.X, b.X), cmp.Compare(a.Side, b.Side))
}

func modelCompareEdges(a, b api.Edge) int {
	return cmp.Or(cmp.Compare(a.Y, b.Y), cmp.Compare(a.X, b.X), cmp.Compare(a.Kind, b.Kind))
}

// edgesOf returns the edges of a quarter: two half diagonals, and the side of its cell.
func edgesOf(q api.Quarter) []api.Edge {
	side := []api.Edge{edge(q.X, q.Y+1, 4), edge(q.X+1, q.Y, 5), edge(q.X, q.Y, 4), edge(q.X, q.Y, 5)}[q.Side]
	return []api.Edge{edge(q.X, q.Y, q.Side), edge(q.X, q.Y, (q.Side+3)%4), side}
}

// modelEdges returns the edges of quarters in ascending order.
func modelEdges(s []api.Quarter) []api.Edge {
	var l []api.Edge
	for _, q := range s {
		l = append(l, edgesOf(q)...)
	}
	slices.SortFunc(l, modelCompareEdges)
	return slices.Compact(l)
}

// modelBetween returns the edges between two bricks.
func modelBetween(t api.Task, a, b api.Laid) []api.Edge {
	others := modelEdges(quartersOf(t, b))
	return slices.DeleteFunc(modelEdges(quartersOf(t, a)), func(e api.Edge) bool { return !slices.Contains(others, e) })
}

// modelJoints returns the edges between different bricks of a list in ascending order.
func modelJoints(t api.Task, l []api.Laid) []api.Edge {
	var joints []api.Edge
	for i, a := range l {
		for _, b := range l[:i] {
			joints = append(joints, modelBetween(t, a, b)...)
		}
	}
	slices.SortFunc(joints, modelCompareEdges)
	return joints
}

func meets(t api.Task, a, b api.Laid) bool {
	others := quartersOf(t, b)
	return slices.ContainsFunc(quartersOf(t, a), func(q api.Quarter) bool { return slices.Contains(others, q) })
}

// modelBroken returns the first rule that bricks break, and where.
func modelBroken(t api.Task, l []api.Laid) (rule, at int) {
	all := modelLaid(t)
	for i, b := range l {
		if !slices.Contains(all, b) {
			return 1, i
		}
	}
	for i := range l {
		if i > 0 && modelCompareQuarters(quartersOf(t, l[i-1])[0], quartersOf(t, l[i])[0]) >= 0 {
			return 2, i
		}
	}
	for i, b := range l {
		if slices.ContainsFunc(l[:i], func(a api.Laid) bool { return meets(t, a, b) }) {
			return 3, i
		}
	}
	for i, q := range t.Ground {
		if !slices.ContainsFunc(l, func(b api.Laid) bool { return slices.Contains(quartersOf(t, b), q) }) {
			return 4, i
		}
	}
	for kind, count := range t.Counts {
		for _, b := range l {
			if b.Kind == kind {
				count--
			}
		}
		if count != 0 {
			return 5, kind
		}
	}
	for i, b := range t.Fixed {
		if !slices.Contains(l, b) {
			return 6, i
		}
	}
	joints := modelJoints(t, l)
	for i, e := range t.Below {
		if slices.Contains(joints, e) {
			return 7, i
		}
	}
	return 0, 0
}

// modelFits reports whether the fixed bricks fit.
func modelFits(t api.Task) bool {
	all, left := modelLaid(t), slices.Clone(t.Counts)
	for i, b := range t.Fixed {
		if !slices.Contains(all, b) {
			return false
		}
		left[b.Kind]--
		if left[b.Kind] < 0 || slices.ContainsFunc(t.Fixed[:i], func(a api.Laid) bool { return meets(t, a, b) }) {
			return false
		}
	}
	joints := modelJoints(t, t.Fixed)
	return !slices.ContainsFunc(t.Below, func(e api.Edge) bool { return slices.Contains(joints, e) })
}

func modelArea(t api.Task) int {
	area := 0
	for i, s := range t.Kinds {
		area += t.Counts[i] * len(s)
	}
	return area
}

// modelTilings returns all tilings, the earliest one first. It covers the last quarter first, and orders the lists that break no rule.
func modelTilings(t api.Task) [][]api.Laid {
	all := modelLaid(t)
	at := func(q api.Quarter) []api.Laid {
		return slices.DeleteFunc(slices.Clone(all), func(b api.Laid) bool { return !slices.Contains(quartersOf(t, b), q) })
	}
	candidates := map[api.Quarter][]api.Laid{}
	for _, q := range t.Ground {
		candidates[q] = at(q)
	}
	var tilings [][]api.Laid
	var cover func(l []api.Laid, open []api.Quarter, left []int)
	cover = func(l []api.Laid, open []api.Quarter, left []int) {
		if len(open) == 0 {
			list := slices.SortedFunc(slices.Values(l), func(a, b api.Laid) int {
				return modelCompareQuarters(quartersOf(t, a)[0], quartersOf(t, b)[0])
			})
			if rule, _ := modelBroken(t, list); rule == 0 {
				tilings = append(tilings, list)
			}
			return
		}
		for _, b := range candidates[open[len(open)-1]] {
			s := quartersOf(t, b)
			if left[b.Kind] == 0 || slices.ContainsFunc(s, func(q api.Quarter) bool { return !slices.Contains(open, q) }) {
				continue
			}
			less := slices.Clone(left)
			less[b.Kind]--
			rest := slices.DeleteFunc(slices.Clone(open), func(q api.Quarter) bool { return slices.Contains(s, q) })
			cover(append(slices.Clone(l), b), rest, less)
		}
	}
	cover(nil, t.Ground, t.Counts)
	slices.SortFunc(tilings, func(a, b []api.Laid) int {
		return slices.CompareFunc(a, b, func(x, y api.Laid) int {
			return cmp.Compare(slices.Index(all, x), slices.Index(all, y))
		})
	})
	return tilings
}

// modelNodes returns how many nodes the tree of a task has whose fixed bricks fit, or more than MaxNodes.
func modelNodes(t api.Task) int {
	all := modelLaid(t)
	nodes := 0
	var grow func(put []api.Laid)
	grow = func(put []api.Laid) {
		nodes++
		if nodes > api.MaxNodes {
			return
		}
		isCovered := func(q api.Quarter) bool {
			return slices.ContainsFunc(put, func(b api.Laid) bool { return slices.Contains(quartersOf(t, b), q) })
		}
		at := slices.IndexFunc(t.Ground, func(q api.Quarter) bool { return !isCovered(q) })
		if at < 0 {
			return
		}
		for _, b := range all {
			count := 0
			for _, a := range put {
				if a.Kind == b.Kind {
					count++
				}
			}
			s := quartersOf(t, b)
			if !slices.Contains(s, t.Ground[at]) || slices.ContainsFunc(s, isCovered) || count >= t.Counts[b.Kind] {
				continue
			}
			isBelow := func(a api.Laid) bool {
				return slices.ContainsFunc(modelBetween(t, a, b), func(e api.Edge) bool { return slices.Contains(t.Below, e) })
			}
			if !slices.ContainsFunc(put, isBelow) {
				grow(append(slices.Clone(put), b))
			}
		}
	}
	grow(t.Fixed)
	return nodes
}

// dot is a point in the plane, in sixths of the side of a cell: a quarter is known by its center of gravity.
type dot struct{ x, y int }

func dotOf(q api.Quarter) dot {
	way := []dot{{0, 1}, {1, 0}, {0, -1}, {-1, 0}}[q.Side]
	return dot{6*q.X + 3 + 2*way.x, 6*q.Y + 3 + 2*way.y}
}

// modelSymmetries returns the ways to move the plane that bring a ground to where it was.
func modelSymmetries(ground []api.Quarter) []func(d dot) dot {
	var all []func(d dot) dot
	there := map[dot]bool{}
	for _, q := range ground {
		there[dotOf(q)] = true
	}
	for _, mirror := range []int{1, -1} {
		for _, m := range [][4]int{{1, 0, 0, 1}, {0, -1, 1, 0}, {-1, 0, 0, -1}, {0, 1, -1, 0}} {
			turn := func(d dot) dot { return dot{m[0]*mirror*d.x + m[1]*d.y, m[2]*mirror*d.x + m[3]*d.y} }
			// All moves that bring the first quarter to some quarter are tried.
			from := turn(dotOf(ground[0]))
			for to := range there {
				move := func(d dot) dot {
					d = turn(d)
					return dot{d.x + to.x - from.x, d.y + to.y - from.y}
				}
				stays := func(q api.Quarter) bool { return there[move(dotOf(q))] }
				isByCells := (to.x-from.x)%6 == 0 && (to.y-from.y)%6 == 0
				if isByCells && !slices.ContainsFunc(ground, func(q api.Quarter) bool { return !stays(q) }) {
					all = append(all, move)
				}
			}
		}
	}
	return all
}

// modelPicture returns which kinds are at which dots, where equal numbers belong to one brick: the least dot of it.
func modelPicture(t api.Task, l []api.Laid, move func(d dot) dot) string {
	type spot struct {
		kind  int
		least dot
	}
	picture := map[dot]spot{}
	for _, b := range l {
		var dots []dot
		for _, q := range quartersOf(t, b) {
			dots = append(dots, move(dotOf(q)))
		}
		least := slices.MinFunc(dots, func(a, b dot) int { return cmp.Or(cmp.Compare(a.y, b.y), cmp.Compare(a.x, b.x)) })
		for _, d := range dots {
			picture[d] = spot{b.Kind, least}
		}
	}
	return told(picture)
}

// modelUnlike returns how many of the tilings are unlike each other.
func modelUnlike(t api.Task, tilings [][]api.Laid) int {
	symmetries := modelSymmetries(t.Ground)
	seen := map[string]bool{}
	count := 0
	for _, l := range tilings {
		if !seen[modelPicture(t, l, func(d dot) dot { return d })] {
			count++
		}
		for _, move := range symmetries {
			seen[modelPicture(t, l, move)] = true
		}
	}
	return count
}

// modelRefutes reports whether weights refute a task.
func modelRefutes(t api.Task, weights []int) bool {
	sum := 0
	for _, w := range weights {
		sum -= w
	}
	for kind, count := range t.Counts {
		var own []int
		for _, b := range modelLaid(t) {
			if b.Kind == kind {
				weight := 0
				for _, q := range quartersOf(t, b) {
					weight += weights[slices.Index(t.Ground, q)]
				}
				own = append(own, weight)
			}
		}
		switch {
		case count > 0 && len(own) == 0:
			return true
		case count > 0:
			sum += count * slices.Min(own)
		}
	}
	return sum > 0
}

// modelPlan returns the first plan of so many layers of some tilings, looked for among all lists of them.
func modelPlan(t api.Task, tilings [][]api.Laid, n int) [][]api.Laid {
	var joints [][]api.Edge
	for _, l := range tilings {
		joints = append(joints, modelJoints(t, l))
	}
	var search func(below []api.Edge, n int) [][]api.Laid
	search = func(below []api.Edge, n int) [][]api.Laid {
		if n == 0 {
			return [][]api.Laid{}
		}
		for i, l := range tilings {
			if slices.ContainsFunc(joints[i], func(e api.Edge) bool { return slices.Contains(below, e) }) {
				continue
			}
			if rest := search(joints[i], n-1); rest != nil {
				return append([][]api.Laid{l}, rest...)
			}
		}
		return nil
	}
	return search(t.Below, n)
}

// modelOrder returns in which order bricks are laid.
func modelOrder(t api.Task, l []api.Laid, first, last []int) []int {
	order := slices.Clone(first)
	for len(order)+len(last) < len(l) {
		var rest, joined []int
		for i, b := range l {
			if slices.Contains(order, i) || slices.Contains(last, i) {
				continue
			}
			rest = append(rest, i)
			if slices.ContainsFunc(order, func(j int) bool { return len(modelBetween(t, l[j], b)) > 0 }) {
				joined = append(joined, i)
			}
		}
		order = append(order, append(joined, rest...)[0])
	}
	return append(order, last...)
}
