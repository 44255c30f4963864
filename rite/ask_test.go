package rite_test

import (
	"slices"
	"testing"

	"chiti/api"
	"chiti/rite"
)

// asked is what is open, forgotten and hopeless.
type asked struct {
	open, forgotten, hopeless []int
}

// ask tests that the three functions have the same error, and returns their results.
func ask(t *testing.T, r api.Rite, l []api.Deed, day int) (asked, api.Errno) {
	t.Helper()
	open, e := rite.Open(r, l, day)
	forgotten, f := rite.Forgotten(r, l, day)
	hopeless, g := rite.Hopeless(r, l, day)
	if e != f || e != g {
		t.Error(r, l, day, e, f, g)
	}
	return asked{open, forgotten, hopeless}, e
}

// P9.3, P9.4: the examples of the chapter, and all that can be between acts.
func TestAsk(t *testing.T) {
	v, w := vow(2), vow(1)
	for i, c := range []struct {
		r                         api.Rite
		l                         []api.Deed
		day                       int
		open, forgotten, hopeless []int
	}{
		{fire(1), nil, 0, acts(0), nil, nil},
		{fire(1), nil, 2, acts(0), nil, nil},
		{fire(1), nil, 3, acts(2), acts(0), nil},
		{fire(1), nil, 4, acts(2), acts(0, 1), acts(1)},
		{fire(1), nil, 5, acts(2), acts(0, 1), acts(1)},
		{fire(1), course(0, 0), 0, nil, nil, nil},
		{fire(2), course(0, 0), 0, nil, nil, nil},
		{fire(1), course(0, 0), 1, acts(1), nil, nil},
		{fire(1), course(1, 0), 1, nil, nil, nil},
		{fire(2), course(1, 0), 1, acts(1), nil, nil},
		{fire(1), course(3, 2), 3, nil, nil, nil},
		{fire(2), course(3, 2), 3, acts(1), nil, nil},
		{fire(1), course(3, 2), 4, nil, acts(1), acts(1)},
		{fire(1), course(0, 0, 1, 1), 5, nil, nil, nil},
		{v, nil, 0, acts(0), nil, nil},
		{v, nil, 3, acts(3), acts(0), nil},
		{v, nil, 4, acts(3), acts(0, 1), nil},
		{v, nil, 5, acts(3, 5), acts(0, 1), nil},
		// What atones for the act 0 needs 3, and that is atoned for by the same.
		{v, nil, 8, acts(5), acts(0, 1, 2, 3), acts(0, 2, 3, 6)},
		{v, nil, 9, nil, acts(0, 1, 2, 3), acts(0, 1, 2, 3, 5, 6)},
		{v, course(5, 5), 9, nil, acts(0, 2, 3), acts(0, 2, 3, 6)},
		{v, course(3, 3), 3, acts(6), acts(0), nil},
		{v, course(3, 3, 9, 6), 9, nil, acts(1, 2), acts(1, 2, 5)},
		{w, course(3, 3), 3, nil, acts(0), nil},
		{v, course(0, 0, 2, 4), 2, acts(2), nil, nil},
		{v, course(0, 0, 2, 4), 6, acts(2, 3), nil, nil},
		{v, course(0, 0, 2, 4), 7, acts(3), acts(2), acts(2)},
		{v, course(0, 0, 2, 1), 2, acts(2), nil, nil},
		{w, course(0, 0, 2, 1), 2, nil, nil, nil},
		{many(10), course(0, 9, 0, 0), 30, acts(1, 2, 3, 4, 5, 6, 7, 8), nil, nil},
	} {
		all, e := ask(t, c.r, c.l, c.day)
		if !same(all, asked{c.open, c.forgotten, c.hopeless}) || e != api.OK {
			t.Error(i, c.l, c.day, all, e)
		}
	}
}

// P9.4: acts that wait for each other are lost as soon as one of them is; what only waits is not.
func TestHopeless(t *testing.T) {
	for i, c := range []struct {
		r    api.Rite
		l    []api.Deed
		day  int
		want []int
	}{
		// Acts that need each other are hopeless before their time.
		{riteOf(5, 1, must("a", 0, 5, 1), must("b", 0, 5, 0)), nil, 0, acts(0, 1)},
		{riteOf(5, 1, must("a", 0, 5, 1), must("b", 0, 5, 2), must("c", 0, 5, 0), must("d", 0, 5, 2), must("e", 0, 5)), nil, 0, acts(0, 1, 2, 3)},
		{riteOf(5, 1, must("a", 0, 5, 1), must("b", 0, 5)), nil, 5, nil},
		{riteOf(5, 1, must("a", 0, 5, 1), must("b", 0, 4)), nil, 5, acts(0, 1)},
		{riteOf(5, 1, must("a", 0, 5, 1), must("b", 0, 4)), nil, 4, nil},
		{riteOf(5, 1, must("a", 0, 5, 1), must("b", 0, 4)), course(4, 1), 5, nil},
		// Of acts that need each other one has a substitute, or an atonement.
		{riteOf(5, 1, with(must("a", 0, 5, 1), -1, 2), must("b", 0, 5, 0), extra("c", 3, 4)), nil, 4, nil},
		{riteOf(5, 1, with(must("a", 0, 5, 1), -1, 2), must("b", 0, 5, 0), extra("c", 3, 4)), nil, 5, acts(0, 1, 2)},
		{riteOf(5, 1, with(must("a", 0, 5, 1), 2), must("b", 0, 5, 0), extra("c", 3, 4)), nil, 4, nil},
		{riteOf(5, 1, with(must("a", 0, 5, 1), 2), must("b", 0, 5, 0), extra("c", 3, 4)), nil, 5, acts(0, 1, 2)},
		{riteOf(5, 1, with(must("a", 0, 5, 1), -1, 2), must("b", 0, 5, 0), extra("c", 3, 4, 1)), nil, 0, acts(0, 1, 2)},
		{riteOf(5, 1, with(must("a", 0, 5, 1), 2), must("b", 0, 5, 0), extra("c", 3, 4, 0)), nil, 0, acts(0, 1, 2)},
		// One of two substitutes, or one of a substitute and an atonement, is enough.
		{riteOf(5, 1, with(must("a", 0, 1), -1, 1, 2), extra("b", 0, 2), extra("c", 0, 3)), nil, 3, acts(1)},
		{riteOf(5, 1, with(must("a", 0, 1), -1, 1, 2), extra("b", 0, 2), extra("c", 0, 3)), nil, 4, acts(0, 1, 2)},
		{riteOf(5, 1, with(must("a", 0, 1), 1, 2), extra("b", 0, 2), extra("c", 0, 3)), nil, 3, acts(1)},
		{riteOf(5, 1, with(must("a", 0, 1), 2, 1), extra("b", 0, 2), extra("c", 0, 3)), nil, 3, acts(1)},
		{riteOf(5, 1, with(must("a", 0, 1), 2, 1), extra("b", 0, 2), extra("c", 0, 3)), nil, 4, acts(0, 1, 2)},
		// An act that is in time, but needs what is lost, is so too, also if it is an extra one.
		{riteOf(5, 1, must("a", 0, 1), must("b", 2, 5, 0), extra("c", 2, 5, 1), must("d", 2, 5)), nil, 2, acts(0, 1, 2)},
		// What is settled is not hopeless, though it is out; an extra act that nobody waits for is.
		{riteOf(5, 1, with(must("a", 0, 1, 2), -1, 1), extra("b", 0, 2), must("c", 0, 0)), course(0, 1), 5, acts(2)},
		{riteOf(5, 1, with(must("a", 0, 1), -1, 1), extra("b", 0, 2)), course(1, 0), 5, acts(1)},
		// It is hopeless what there is no time for only if it is out: how many deeds a day has does not matter.
		{riteOf(5, 1, must("a", 5, 5), must("b", 5, 5)), course(5, 0), 5, nil},
	} {
		l, e := rite.Hopeless(c.r, c.l, c.day)
		if !slices.Equal(l, c.want) || e != api.OK {
			t.Error(i, l, e)
		}
	}
}

// P9.3, P9.4, P9.5: errors of functions with a day, in their order.
func TestDays(t *testing.T) {
	for i, c := range []struct {
		r   api.Rite
		l   []api.Deed
		day int
		e   api.Errno
	}{
		{fire(1), nil, 0, api.OK}, {fire(1), nil, -1, api.ErrRange}, {fire(1), nil, 5, api.OK}, {fire(1), nil, 6, api.ErrRange}, {fire(1), nil, -1 << 63, api.ErrRange}, {fire(1), nil, 1<<63 - 1, api.ErrRange},
		{fire(1), course(2, 0), 1, api.ErrRange}, {fire(1), course(2, 0), 2, api.OK}, {fire(1), course(2, 0), 5, api.OK}, {fire(1), course(2, 0), 6, api.ErrRange}, {fire(1), course(2, 0), 0, api.ErrRange},
		{fire(1), course(1, 1), 9, api.ErrState}, {fire(1), course(1, 1), -1, api.ErrState}, {fire(1), course(1, 1), 1, api.ErrState}, {fire(1), course(2, 0, 1, 1), 2, api.ErrState},
		{fire(0), course(1, 1), 9, api.ErrArg}, {fire(0), nil, 9, api.ErrArg}, {fire(0), nil, 0, api.ErrArg},
		{fire(1), course(0, 0, 1, 1), 0, api.ErrRange}, {fire(1), course(0, 0, 1, 1), 1, api.OK},
	} {
		all, e := ask(t, c.r, c.l, c.day)
		if e != c.e || e != api.OK && !same(all, asked{}) {
			t.Error(i, all, e)
		}
		if l, e := rite.Repair(c.r, c.l, c.day); c.e != api.OK && (l != nil || e != c.e) || c.e == api.OK && e != api.OK && e != api.ErrNone {
			t.Error(i, l, e)
		}
	}
}

// P9.3, P9.4: as in the model.
func TestAskAsModel(t *testing.T) {
	next := pseudo()
	counts := make([]int, 3)
	for range 4000 {
		r := someRite(next, []int{3, 6, 10}[next(3)], 12)
		l := someCourse(next, r)
		day := someDay(next, r, l)
		want := asked{
			open:      modelThose(r, func(act int) bool { return modelBroken(r, l, api.Deed{Day: day, Act: act}) == 0 }),
			forgotten: modelThose(r, func(act int) bool { return modelForgotten(r, l, act, day) }),
			hopeless:  modelHopeless(r, l, day),
		}
		all, e := ask(t, r, l, day)
		if !same(all, want) || e != api.OK {
			t.Error(r, l, day, all, want, e)
		}
		for i, found := range [][]int{all.open, all.forgotten, all.hopeless} {
			counts[i] += min(1, len(found))
		}
	}
	if slices.Min(counts) < 500 {
		t.Error("only so many with something in them:", counts)
	}
}
