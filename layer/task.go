package layer

import (
	"cmp"
	"slices"

	"chiti/api"
	"chiti/brick"
)

// The kinds of edges are 0 to maxEdgeKind.
const maxEdgeKind = 5

// errorOf returns the error of a task that is not valid, or of lists with too many bricks.
func errorOf(t api.Task, lists ...[]api.Laid) api.Errno {
	isLong := func(l []api.Laid) bool { return len(l) > api.MaxLaid }
	switch {
	case !isTask(t):
		return api.ErrArg
	case slices.ContainsFunc(lists, isLong):
		return api.ErrLong
	}
	return api.OK
}

func isTask(t api.Task) bool {
	isKind := func(s []api.Quarter) bool { return isShape(s, api.MaxKind) }
	return isShape(t.Ground, api.MaxTiled) &&
		within(len(t.Kinds), 1, api.MaxKinds) && every(isKind, t.Kinds...) &&
		len(t.Counts) == len(t.Kinds) && areCounts(t.Counts) &&
		len(t.Fixed) <= api.MaxLaid &&
		len(t.Below) <= api.MaxBelow && areEdges(t.Below)
}

// isShape reports whether a list is a shape of at most so many quarters.
func isShape(s []api.Quarter, most int) bool { return len(s) <= most && brick.Check(s) == api.OK }

func areCounts(counts []int) bool {
	sum := 0
	for _, n := range counts {
		// Each one by itself, so that the sum of great ones can not come around to a small one.
		if !within(n, 0, api.MaxLaid) {
			return false
		}
		sum += n
	}
	return sum <= api.MaxLaid
}

// areEdges reports whether a list is one of edges in strictly ascending order.
func areEdges(l []api.Edge) bool {
	isEdge := func(e api.Edge) bool {
		return within(e.X, 0, api.MaxGrid) && within(e.Y, 0, api.MaxGrid) && within(e.Kind, 0, maxEdgeKind)
	}
	isBehind := func(i int) bool { return i == 0 || compareEdges(l[i-1], l[i]) < 0 }
	return every(isEdge, l...) && first(len(l), not(isBehind)) < 0
}

func compareEdges(a, b api.Edge) int {
	return cmp.Or(cmp.Compare(a.Y, b.Y), cmp.Compare(a.X, b.X), cmp.Compare(a.Kind, b.Kind))
}

func every[T any](is func(x T) bool, l ...T) bool {
	return !slices.ContainsFunc(l, func(x T) bool { return !is(x) })
}

func not(is func(i int) bool) func(i int) bool { return func(i int) bool { return !is(i) } }

// first returns the first one of the numbers 0 to n - 1 for which a condition is true, and -1 if there is none.
func first(n int, is func(i int) bool) int {
	for i := range n {
		if is(i) {
			return i
		}
	}
	return -1
}

func within(n, low, high int) bool { return low <= n && n <= high }
