package school_test

import (
	"slices"
	"testing"

	"chiti/api"
	"chiti/school"
)

// chain returns the parents of so many copies, each of which was made from the one before it.
func chain(n int) []int {
	var parents []int
	for number := range n {
		parents = append(parents, number-1)
	}
	return parents
}

// star returns the parents of so many copies that were made from the copy 0.
func star(n int) []int { return append(ints(-1), make([]int, n-1)...) }

// P11.5: the example of the chapter, readings that are lost and that are there, and the errors.
func TestRestore(t *testing.T) {
	for i, c := range []struct {
		parents, readings, want []int
		changes                 int
		e                       api.Errno
	}{
		{ints(-1, 0, 0, 0), ints(-1, 5, 7, 7), ints(7, 5, 7, 7), 1, api.OK}, {ints(-1), ints(-1), ints(0), 0, api.OK}, {ints(-1), ints(15), ints(15), 0, api.OK}, {ints(-1, 0), ints(-1, -1), ints(0, 0), 0, api.OK}, {ints(-1, 0), ints(3, -1), ints(3, 3), 0, api.OK}, {ints(-1, 0), ints(-1, 3), ints(3, 3), 0, api.OK}, {ints(-1, 0), ints(15, 0), ints(15, 0), 1, api.OK},
		// The smallest list.
		{ints(-1, 0, 0), ints(-1, 7, 5), ints(5, 7, 5), 1, api.OK}, {ints(-1, 0, 0), ints(-1, 5, 7), ints(5, 5, 7), 1, api.OK}, {chain(4), ints(7, -1, -1, 4), ints(7, 4, 4, 4), 1, api.OK}, {chain(4), ints(3, -1, -1, 4), ints(3, 3, 3, 4), 1, api.OK}, {chain(3), ints(-1, 4, -1), ints(4, 4, 4), 0, api.OK}, {chain(5), ints(9, -1, 2, -1, 9), ints(9, 2, 2, 2, 9), 2, api.OK}, {chain(5), ints(1, -1, 2, -1, 1), ints(1, 1, 2, 1, 1), 2, api.OK}, {ints(-1, 0, 0, 1, 2), ints(-1, -1, -1, 9, 8), ints(8, 8, 8, 9, 8), 1, api.OK}, {ints(-1, 0, 0, 2, 1), ints(-1, -1, -1, 9, 8), ints(8, 8, 8, 9, 8), 1, api.OK},
		// What is smallest for a copy can take more changes in all.
		{star(5), ints(-1, 0, 1, 1, 0), ints(0, 0, 1, 1, 0), 2, api.OK}, {star(6), ints(-1, 0, 1, 1, 0, 1), ints(1, 0, 1, 1, 0, 1), 2, api.OK}, {ints(-1, 0, 1, 1, 1), ints(2, -1, 3, 3, 2), ints(2, 2, 3, 3, 2), 2, api.OK}, {ints(-1, 0, 1, 1, 1), ints(4, -1, 3, 3, 4), ints(4, 3, 3, 3, 4), 2, api.OK}, {ints(-1, 0, 1, 1, 1), ints(2, -1, 3, 3, 3), ints(2, 3, 3, 3, 3), 1, api.OK}, {ints(-1, 0, 0, 1, 1, 2, 2), ints(-1, -1, -1, 1, 2, 2, 3), ints(2, 2, 2, 1, 2, 2, 3), 2, api.OK}, {ints(-1, 0, 0, 1, 1, 2, 2), ints(-1, -1, -1, 9, 9, 4, 4), ints(4, 9, 4, 9, 9, 4, 4), 1, api.OK},
		// Nothing is lost.
		{ints(-1, 0, 0), ints(1, 2, 3), ints(1, 2, 3), 2, api.OK}, {ints(-1, 0, 0), ints(1, 1, 1), ints(1, 1, 1), 0, api.OK}, {chain(4), ints(0, 15, 0, 15), ints(0, 15, 0, 15), 3, api.OK}, {ints(-1, 0, 1, 0), ints(4, 5, 4, 5), ints(4, 5, 4, 5), 3, api.OK},
		// As many copies as there can be.
		{chain(20), slices.Repeat(ints(-1), 20), make([]int, 20), 0, api.OK}, {star(20), append(ints(-1), slices.Repeat(ints(15), 19)...), slices.Repeat(ints(15), 20), 0, api.OK}, {star(20), append(ints(0), slices.Repeat(ints(15), 19)...), append(ints(0), slices.Repeat(ints(15), 19)...), 19, api.OK}, {star(20), append(ints(15), make([]int, 19)...), append(ints(15), make([]int, 19)...), 19, api.OK},
		{chain(20), slices.Repeat(ints(0, 15), 10), slices.Repeat(ints(0, 15), 10), 19, api.OK}, {chain(20), append(slices.Repeat(ints(-1), 19), 9), slices.Repeat(ints(9), 20), 0, api.OK}, {chain(20), append(ints(9), slices.Repeat(ints(-1), 19)...), slices.Repeat(ints(9), 20), 0, api.OK},
		// No copies.
		{nil, nil, nil, 0, api.ErrArg}, {nil, ints(1), nil, 0, api.ErrArg}, {ints(-1), nil, nil, 0, api.ErrArg}, {ints(-1), ints(1, 1), nil, 0, api.ErrArg}, {ints(-1, 0), ints(1), nil, 0, api.ErrArg}, {chain(20), make([]int, 21), nil, 0, api.ErrArg}, {chain(20), make([]int, 1<<18), nil, 0, api.ErrArg}, {chain(20), make([]int, 19), nil, 0, api.ErrArg},
		{ints(0), ints(1), nil, 0, api.ErrArg}, {ints(-2), ints(1), nil, 0, api.ErrArg}, {ints(1), ints(1), nil, 0, api.ErrArg}, {ints(-1, -1), ints(1, 1), nil, 0, api.ErrArg}, {ints(-1, 1), ints(1, 1), nil, 0, api.ErrArg}, {ints(-1, 2, 0), ints(1, 1, 1), nil, 0, api.ErrArg}, {ints(-1, 0, 2), ints(1, 1, 1), nil, 0, api.ErrArg}, {ints(-1, 0, 3), ints(1, 1, 1), nil, 0, api.ErrArg}, {ints(-1, 0, -1), ints(1, 1, 1), nil, 0, api.ErrArg}, {ints(0, 0), ints(1, 1), nil, 0, api.ErrArg}, {ints(-1, -1<<63), ints(1, 1), nil, 0, api.ErrArg}, {ints(-1, 1<<63-1), ints(1, 1), nil, 0, api.ErrArg}, {ints(-1<<63, 0), ints(1, 1), nil, 0, api.ErrArg},
		{ints(-1), ints(16), nil, 0, api.ErrArg}, {ints(-1), ints(-2), nil, 0, api.ErrArg}, {ints(-1, 0), ints(1, 16), nil, 0, api.ErrArg}, {ints(-1, 0), ints(-1, -2), nil, 0, api.ErrArg}, {ints(-1, 0), ints(-1<<63, 1), nil, 0, api.ErrArg}, {ints(-1, 0), ints(1, 1<<63-1), nil, 0, api.ErrArg},
		// Too many of them, whatever they are.
		{chain(21), make([]int, 21), nil, 0, api.ErrLong}, {chain(21), nil, nil, 0, api.ErrLong}, {make([]int, 21), ints(1), nil, 0, api.ErrLong}, {make([]int, 1<<18), slices.Repeat(ints(16), 21), nil, 0, api.ErrLong},
	} {
		all, changes, e := school.Restore(c.parents, c.readings)
		if !slices.Equal(all, c.want) || changes != c.changes || e != c.e || e != api.OK && all != nil {
			t.Error(i, c.parents, c.readings, all, changes, e)
		}
	}
}

// P11.5, P11.11: as in the model, which tries all lists, with all readings if few are lost.
func TestRestoreAsModel(t *testing.T) {
	next := pseudo()
	for range 1500 {
		kinds, lost, all := 16, 2, 16
		if next(4) > 0 {
			kinds, lost, all = 1+next(4), 6, 4
		}
		parents, readings := someCopies(next, 9, kinds, lost)
		got, changes := restore(t, parents, readings)
		want, fewest := modelRestore(parents, readings, all)
		if !slices.Equal(got, want) || changes != fewest {
			t.Error(parents, readings, got, changes, want, fewest)
		}
	}
}

// P11.5, P11.11: what is not lost stays; no copy that is lost can get another reading with fewer changes, or a smaller one with as few; different readings have different copies in which they came up.
func TestLawsOfCopies(t *testing.T) {
	next := pseudo()
	for range 3000 {
		parents, readings := someCopies(next, 20, 1+next(16), next(25))
		all, changes := restore(t, parents, readings)
		different := map[int]bool{}
		if len(all) != len(readings) || changes != modelChanges(parents, all) {
			t.Error(parents, readings, all, changes)
			continue
		}
		for number, reading := range all {
			different[reading] = true
			if readings[number] >= 0 {
				if reading != readings[number] {
					t.Error("not as it is", parents, readings, all, number)
				}
				continue
			}
			other := slices.Clone(all)
			for other[number] = range 16 {
				if n := modelChanges(parents, other); n < changes || n == changes && other[number] < reading {
					t.Error("not the best", parents, readings, all, other)
				}
			}
		}
		if changes < len(different)-1 || !slices.Contains(readings, -1) && !slices.Equal(all, readings) {
			t.Error(parents, readings, all, changes)
		}
		again, n := restore(t, parents, all)
		if !slices.Equal(again, all) || n != changes {
			t.Error(parents, all, again, n)
		}
	}
}
