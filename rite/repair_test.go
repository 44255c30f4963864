package rite_test

import (
	"slices"
	"testing"

	"chiti/api"
	"chiti/rite"
)

// P9.5: the fewest deeds, and of those the smallest list.
func TestRepair(t *testing.T) {
	v, w := vow(2), vow(1)
	// One substitute serves for two acts.
	both := riteOf(9, 2, with(must("a", 0, 3), -1, 3), with(must("b", 0, 3), -1, 2, 3), extra("c", 0, 9), extra("d", 4, 6))
	// One atonement is done for three acts; it is possible only from the day 7 on.
	late := riteOf(9, 4, with(must("a", 0, 2), 3), with(must("b", 0, 4), 3), with(must("c", 0, 6), 3), extra("d", 7, 9))
	for i, c := range []struct {
		r    api.Rite
		l    []api.Deed
		day  int
		want []api.Deed
		e    api.Errno
	}{
		{fire(1), nil, 0, course(0, 0, 1, 1), api.OK},
		{fire(1), nil, 2, course(2, 0, 3, 1), api.OK},
		{fire(1), nil, 3, nil, api.ErrNone},
		{fire(2), nil, 3, course(3, 2, 3, 1), api.OK},
		{fire(2), nil, 4, nil, api.ErrNone},
		{fire(2), nil, 1, course(1, 0, 1, 1), api.OK},
		{fire(1), course(1, 0), 1, course(2, 1), api.OK},
		{fire(2), course(1, 0), 1, course(1, 1), api.OK},
		{fire(1), course(1, 0), 3, course(3, 1), api.OK},
		{fire(1), course(1, 0), 4, nil, api.ErrNone},
		{fire(1), course(0, 0, 1, 1), 1, nil, api.OK},
		{fire(1), course(0, 0, 1, 1), 5, nil, api.OK},
		{fire(1), course(3, 2), 3, nil, api.ErrNone},
		{riteOf(5, 1, extra("a", 0, 5)), nil, 3, nil, api.OK},
		{riteOf(5, 1, must("a", 0, 5, 1), must("b", 0, 5, 0)), nil, 0, nil, api.ErrNone},
		{v, nil, 0, course(0, 0, 1, 1, 2, 2, 3, 3), api.OK},
		{w, nil, 0, course(0, 0, 1, 1, 2, 2, 3, 3), api.OK},
		{v, nil, 2, course(2, 0, 2, 1, 3, 2, 3, 3), api.OK},
		{v, nil, 3, course(3, 3, 3, 6, 4, 4, 4, 2), api.OK},
		{w, nil, 3, course(3, 3, 4, 6, 5, 4, 6, 2), api.OK},
		{w, nil, 4, nil, api.ErrNone},
		{v, nil, 5, course(5, 3, 5, 5, 6, 6, 6, 2), api.OK},
		{v, nil, 6, nil, api.ErrNone},
		{vow(4), nil, 6, course(6, 3, 6, 5, 6, 6, 6, 2), api.OK},
		{vow(3), nil, 6, nil, api.ErrNone},
		{v, course(0, 0, 2, 4), 2, course(2, 2, 3, 3), api.OK},
		{w, course(0, 0, 2, 4), 2, course(3, 2, 4, 3), api.OK},
		{both, nil, 0, course(4, 3), api.OK},
		{both, nil, 6, course(6, 3), api.OK},
		{both, nil, 7, nil, api.ErrNone},
		{both, course(0, 0), 0, course(0, 1), api.OK},
		{both, course(0, 0), 4, course(4, 2), api.OK},
		{both, course(2, 1), 3, course(3, 0), api.OK},
		{both, course(2, 1), 4, course(4, 3), api.OK},
		{late, nil, 0, course(7, 3), api.OK},
		{late, course(0, 0), 0, course(7, 3), api.OK},
		{late, course(0, 0, 0, 1), 0, course(0, 2), api.OK},
		{late, course(0, 0, 0, 1), 7, course(7, 3), api.OK},
		{late, nil, 9, course(9, 3), api.OK},
		{many(10), nil, 30, nil, api.ErrNone},
		{many(10), nil, 28, course(28, 0, 28, 1, 28, 2, 28, 3, 29, 4, 29, 5, 29, 6, 29, 7, 30, 8, 30, 9), api.OK},
		{many(9), course(28, 7, 28, 0, 28, 8), 28, course(28, 1, 29, 2, 29, 3, 29, 4, 29, 5, 30, 6), api.OK},
	} {
		l, e := rite.Repair(c.r, c.l, c.day)
		if !slices.Equal(l, c.want) || e != c.e {
			t.Error(i, l, e)
		}
	}
}

// P9.5: of as few deeds the earlier days come first, and then the earlier acts, deed by deed.
func TestSmallest(t *testing.T) {
	for i, c := range []struct {
		r    api.Rite
		want []api.Deed
	}{
		{riteOf(5, 1, must("a", 1, 5), must("b", 0, 5)), course(0, 1, 1, 0)},
		{riteOf(5, 1, must("a", 0, 5), must("b", 0, 5)), course(0, 0, 1, 1)},
		// The first act can wait, the second one can not.
		{riteOf(5, 1, must("a", 0, 5), must("b", 0, 0)), course(0, 1, 1, 0)},
		{riteOf(5, 2, must("a", 0, 5), must("b", 0, 0)), course(0, 0, 0, 1)},
		{riteOf(5, 2, must("a", 0, 5, 1), must("b", 0, 0)), course(0, 1, 0, 0)},
		// A substitute is as good as the act; the smaller number counts.
		{riteOf(5, 1, with(must("a", 0, 5), -1, 1), extra("b", 0, 5)), course(0, 0)},
		{riteOf(5, 1, extra("b", 0, 5), with(must("a", 0, 5), -1, 0)), course(0, 0)},
		{riteOf(5, 1, with(must("a", 2, 5), -1, 1), extra("b", 1, 5)), course(1, 1)},
		{riteOf(5, 1, with(must("a", 2, 5), -1, 1, 2), extra("b", 2, 5), extra("c", 2, 5)), course(2, 0)},
		{riteOf(5, 1, with(must("a", 3, 5), -1, 1, 2), extra("b", 2, 5), extra("c", 2, 5)), course(2, 1)},
		// The first deed is smaller, though the second one is later then.
		{riteOf(9, 4, with(must("a", 0, 0), 2), with(must("b", 4, 4), -1, 3, 4), extra("c", 0, 9), extra("d", 9, 9), extra("e", 5, 5)), course(0, 0, 4, 1)},
		{riteOf(9, 1, with(must("a", 5, 9), -1, 2), must("b", 2, 9), extra("c", 0, 1)), course(0, 2, 2, 1)},
		{riteOf(9, 1, with(must("a", 2, 9), -1, 2), must("b", 2, 9, 2), extra("c", 1, 1, 3), with(extra("d", 0, 3), -1, 4), extra("e", 0, 0)), course(0, 4, 1, 2, 2, 1)},
	} {
		l, e := rite.Repair(c.r, nil, 0)
		if !slices.Equal(l, c.want) || e != api.OK {
			t.Error(i, l, e)
		}
		if want, is := modelRepair(c.r, nil, 0); !slices.Equal(want, c.want) && is {
			t.Error("the model has another list:", i, want)
		}
	}
}

// P9.6: the last day from which on a rite can be completed.
func TestLatest(t *testing.T) {
	for i, c := range []struct {
		r    api.Rite
		l    []api.Deed
		want int
		e    api.Errno
	}{
		{fire(1), nil, 2, api.OK},
		{fire(2), nil, 3, api.OK},
		{fire(1), course(0, 0), 3, api.OK},
		{fire(1), course(2, 0), 3, api.OK},
		{fire(1), course(0, 0, 1, 1), 5, api.OK},
		{fire(1), course(3, 2), 0, api.ErrNone},
		{fire(2), course(3, 2), 3, api.OK},
		{fire(1), course(4, 2), 0, api.ErrNone},
		{fire(1), course(1, 1), 0, api.ErrState},
		{fire(0), course(1, 1), 0, api.ErrArg},
		{fire(0), nil, 0, api.ErrArg},
		{vow(1), nil, 3, api.OK},
		{vow(2), nil, 5, api.OK},
		{vow(3), nil, 5, api.OK},
		{vow(4), nil, 6, api.OK},
		{many(10), nil, 28, api.OK},
		{many(8), nil, 29, api.OK},
		{many(4), nil, 30, api.OK},
		{many(4), course(30, 2), 30, api.OK},
		{many(5), course(30, 2), 0, api.ErrNone},
		{many(1), course(30, 0), 30, api.OK},
		{riteOf(0, 1, must("a", 0, 0)), nil, 0, api.OK},
		{riteOf(0, 1, must("a", 0, 0), must("b", 0, 0)), nil, 0, api.ErrNone},
		{riteOf(7, 1, must("a", 0, 0)), nil, 0, api.OK},
		{riteOf(7, 1, extra("a", 0, 0)), nil, 7, api.OK},
		{riteOf(7, 1, must("a", 7, 7)), nil, 7, api.OK},
		{riteOf(7, 1, must("a", 0, 5, 1), must("b", 0, 5, 0)), nil, 0, api.ErrNone},
	} {
		day, e := rite.Latest(c.r, c.l)
		if day != c.want || e != c.e {
			t.Error(i, day, e)
		}
	}
}

// modelLatest returns the last day for which there is a repair, and -1 if there is none.
func modelLatest(r api.Rite, l []api.Deed, find func(r api.Rite, l []api.Deed, day int) ([]api.Deed, bool)) int {
	latest := -1
	for day := modelDay(l); day <= r.Last; day++ {
		if _, is := find(r, l, day); is {
			latest = day
		}
	}
	return latest
}

// repairsAs tests Repair and Latest against a model.
func repairsAs(t *testing.T, find func(r api.Rite, l []api.Deed, day int) ([]api.Deed, bool), rites, most, days int) {
	next := pseudo()
	repaired, atoned, none := 0, 0, 0
	for range rites {
		r := someRite(next, most, days)
		l := someCourse(next, r)
		day := someDay(next, r, l)
		want, is := find(r, l, day)
		more, e := rite.Repair(r, l, day)
		if !slices.Equal(more, want) || is != (e == api.OK) || !is && e != api.ErrNone {
			t.Error(r, l, day, more, want, is, e)
		}
		latest := modelLatest(r, l, find)
		if found, e := rite.Latest(r, l); latest >= 0 && (found != latest || e != api.OK) || latest < 0 && (found != 0 || e != api.ErrNone) {
			t.Error(r, l, found, latest, e)
		}
		switch isExtra := func(d api.Deed) bool { return r.Acts[d.Act].Extra }; {
		case !is:
			none++
		case slices.ContainsFunc(more, isExtra):
			atoned++
		case len(more) > 0:
			repaired++
		}
	}
	if min(repaired, atoned, none) < rites/20 {
		t.Error("only so many of a sort:", repaired, atoned, none)
	}
}

// P9.5, P9.6: as in the model that goes through all lists.
func TestRepairAsModel(t *testing.T) { repairsAs(t, modelRepair, 6000, 5, 7) }

// P9.5, P9.6: as in the model that waits for each day, for greater rites.
func TestRepairAsQuickModel(t *testing.T) {
	repairsAs(t, modelQuick, 1200, 10, 16)
	next := pseudo()
	for range 500 {
		r := someRite(next, 4, 5)
		l := someCourse(next, r)
		day := someDay(next, r, l)
		slow, is := modelRepair(r, l, day)
		quick, isToo := modelQuick(r, l, day)
		if !slices.Equal(slow, quick) || is != isToo {
			t.Error("the models differ:", r, l, day, slow, quick)
		}
	}
}

// P1: the greatest rites are repaired in time.
func TestGreat(t *testing.T) {
	for toil := 1; toil <= 4; toil++ {
		for _, step := range []int{0, 1, 2, 3} {
			r := many(10)
			r.Toil = toil
			var want []api.Deed
			for act := range r.Acts {
				r.Acts[act].From = step * act
			}
			for day := 0; len(want) < 10; day++ {
				for n := 0; n < toil && len(want) < 10 && r.Acts[len(want)].From <= day; n++ {
					want = append(want, api.Deed{Day: day, Act: len(want)})
				}
			}
			l, e := rite.Repair(r, nil, 0)
			latest, f := rite.Latest(r, nil)
			if !slices.Equal(l, want) || e != api.OK || f != api.OK || latest != 31-(9+toil)/toil {
				t.Error(toil, step, l, want, e, latest, f)
			}
		}
	}
	ring := many(10)
	for act := range ring.Acts {
		ring.Acts[act].Needs = acts((act + 1) % 10)
	}
	if l, e := rite.Repair(ring, nil, 0); l != nil || e != api.ErrNone {
		t.Error(l, e)
	}
	short := many(10)
	short.Acts[9] = must("j", 0, 0)
	short.Acts[8] = must("i", 0, 0)
	short.Toil = 1
	if l, e := rite.Repair(short, nil, 0); l != nil || e != api.ErrNone {
		t.Error(l, e)
	}
}
