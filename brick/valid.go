package brick

import (
	"cmp"

	"chiti/api"
)

// sides is how many sides, and quarters, a cell has.
const sides = 4

// errorOf returns the error of the first one of the shapes that is none.
func errorOf(shapes ...[]api.Quarter) api.Errno {
	for _, s := range shapes {
		switch {
		case len(s) > api.MaxQuarters:
			return api.ErrLong
		case !isShape(s):
			return api.ErrArg
		}
	}
	return api.OK
}

func isShape(s []api.Quarter) bool {
	isQuarter := func(q api.Quarter) bool { return onGrid(q.X) && onGrid(q.Y) && within(q.Side, 0, sides-1) }
	isBehind := func(i int) bool { return i == 0 || compareQuarters(s[i-1], s[i]) < 0 }
	for i, q := range s {
		if !isQuarter(q) || !isBehind(i) {
			return false
		}
	}
	return len(s) > 0
}

// areApart reports whether no quarter is in two shapes.
func areApart(shapes ...[]api.Quarter) bool {
	var taken grid
	for _, s := range shapes {
		for _, q := range s {
			if taken.has(q) {
				return false
			}
			taken.add(q)
		}
	}
	return true
}

func compareQuarters(a, b api.Quarter) int {
	return cmp.Or(cmp.Compare(a.Y, b.Y), cmp.Compare(a.X, b.X), cmp.Compare(a.Side, b.Side))
}

func onGrid(n int) bool { return within(n, 0, api.MaxGrid-1) }

func within(n, low, high int) bool { return low <= n && n <= high }
