package rite_test

import (
	"slices"
	"testing"

	"chiti/api"
	"chiti/rite"
)

// P9.1: the first deed that breaks a rule, and the first rule that it breaks.
func TestJudge(t *testing.T) {
	v, w := vow(2), vow(1)
	for i, c := range []struct {
		r        api.Rite
		l        []api.Deed
		at, rule int
	}{
		// The examples of the chapter.
		{fire(1), nil, -1, 0}, {fire(1), course(1, 1), 0, 4}, {fire(1), course(0, 2), 0, 5}, {fire(1), course(0, 0, 1, 1), -1, 0}, {fire(2), course(3, 2, 3, 1), -1, 0}, {fire(1), course(3, 2, 3, 1), 1, 6}, {fire(1), course(3, 2, 4, 1), 1, 3},
		// Rule 1: the days of a course.
		{v, course(-1, 0), 0, 1}, {v, course(10, 0), 0, 1}, {v, course(9, 0), 0, 3}, {v, course(-1<<63, 0), 0, 1}, {v, course(1<<63-1, 0), 0, 1}, {v, course(1, 0, 0, 1), 1, 1}, {v, course(2, 0, 1, 1), 1, 1}, {v, course(2, 0, 2, 1), -1, 0}, {v, course(2, 0, 3, 1), -1, 0}, {v, course(3, 3, 2, 0), 1, 1}, {v, course(10, -1), 0, 1}, {v, course(1, 0, 0, 0), 1, 1},
		// Rule 2: acts that are there, and not done or settled.
		{v, course(0, -1), 0, 2}, {v, course(0, 9), 0, 2}, {v, course(0, 16), 0, 2}, {v, course(0, 64), 0, 2}, {v, course(0, 1<<63-1), 0, 2}, {v, course(0, -1<<63), 0, 2}, {v, course(0, 0, 0, 0), 1, 2}, {v, course(0, 0, 9, 0), 1, 2}, {v, course(0, 0, 2, 4, 2, 1), 2, 2}, {v, course(5, 5, 5, 1), 1, 2}, {v, course(3, 3, 3, 6), -1, 0}, {w, course(0, 0, 0, 0), 1, 2}, {v, course(5, 5, 5, 5), 1, 2}, {v, course(0, 0, 2, 4, 5, 5), 2, 5},
		// Rule 3: the days of an act.
		{v, course(3, 0), 0, 3}, {v, course(2, 0), -1, 0}, {v, course(0, 0), -1, 0}, {v, course(0, 1), 0, 3}, {v, course(2, 3), 0, 3}, {v, course(3, 3), -1, 0}, {v, course(7, 3), -1, 0}, {v, course(8, 3), 0, 3}, {v, course(4, 5), 0, 3}, {v, course(9, 5), 0, 3}, {v, course(0, 0, 4, 1), 1, 3}, {v, course(1, 4), 0, 3}, {v, course(6, 4), 0, 3},
		// Rule 4: what an act needs.
		{v, course(1, 1), 0, 4}, {v, course(2, 2), 0, 4}, {v, course(0, 0, 2, 2), 1, 4}, {v, course(5, 5, 5, 2), 1, 4}, {v, course(0, 0, 1, 1, 2, 2), -1, 0}, {v, course(0, 0, 2, 4, 2, 2), -1, 0}, {v, course(0, 0, 5, 5, 5, 2), -1, 0}, {v, course(2, 4), 0, 4}, {v, course(8, 6), 0, 4}, {v, course(1, 6), 0, 4}, {v, course(3, 3, 3, 6, 4, 4), -1, 0}, {v, course(3, 6), 0, 4},
		// Rule 5: extra acts that are called for.
		{v, course(5, 5), -1, 0}, {v, course(0, 0, 1, 1, 5, 5), -1, 0}, {v, course(0, 0, 1, 1, 2, 4), 2, 5}, {v, course(0, 0, 2, 4, 8, 5), 2, 5}, {v, course(0, 7), 0, 5}, {v, course(9, 7), 0, 5}, {v, course(0, 8), 0, 5}, {v, course(9, 8), 0, 5}, {w, course(0, 0, 0, 8), 1, 5},
		// Rule 6: how many deeds there can be on a day.
		{v, course(2, 0, 2, 1), -1, 0}, {v, course(2, 0, 2, 1, 2, 2), 2, 6}, {w, course(2, 0, 2, 1), 1, 6}, {w, course(2, 0, 3, 1), -1, 0}, {vow(3), course(2, 0, 2, 1, 2, 2), -1, 0}, {v, course(1, 0, 1, 1, 2, 2), -1, 0}, {w, course(1, 0, 2, 1, 3, 2, 3, 3), 3, 6}, {w, course(1, 0, 2, 1, 3, 2, 4, 3), -1, 0},
		// The first one counts.
		{v, course(0, 0, 0, 1, 10, 0), 1, 3}, {v, course(0, 9, 10, 0), 0, 2}, {v, course(5, 1), 0, 3}, {v, course(5, 0, 4, 0), 0, 3}, {v, slices.Repeat(course(0, 0), 1<<16), 1, 2},
	} {
		at, rule, e := rite.Judge(c.r, c.l)
		if at != c.at || rule != c.rule || e != api.OK {
			t.Error(i, c.l, at, rule, e)
		}
		for name, o := range outcomes(c.r, c.l, 9, "") {
			if isOfCourse := name != "Check" && name != "Judge" && name != "Read"; isOfCourse && (o.e == api.ErrState) != (c.rule != 0) {
				t.Error(i, name, c.l, o)
			}
		}
	}
}

// P9.1: an atonement waits for the day after the last one of an act, and is done for all acts at once.
func TestAtonement(t *testing.T) {
	r := riteOf(9, 2, with(must("a", 0, 2), 3), with(must("b", 4, 6), 3), with(extra("c", 0, 1), 4), extra("d", 0, 8), extra("e", 0, 9))
	for i, c := range []struct {
		l        []api.Deed
		at, rule int
		settled  []int
	}{
		{course(2, 3), 0, 5, nil},
		{course(3, 3), -1, 0, acts(0, 1, 3)},
		{course(3, 3, 4, 1), 1, 2, nil},
		{course(1, 0, 6, 3), 1, 5, nil},
		{course(1, 0, 7, 3), -1, 0, acts(0, 1, 3)},
		{course(1, 0, 4, 1, 8, 3), 2, 5, nil},
		{course(4, 1, 4, 3), -1, 0, acts(0, 1, 3)},
		{course(9, 3), 0, 3, nil},
		// There is nothing to atone for if an extra act was not done.
		{course(9, 4), 0, 5, nil},
		{course(3, 3, 9, 4), 1, 5, nil},
	} {
		at, rule, e := rite.Judge(r, c.l)
		settled, f := rite.Settled(r, c.l)
		if at != c.at || rule != c.rule || e != api.OK || !slices.Equal(settled, c.settled) || (f == api.OK) != (c.rule == 0) {
			t.Error(i, at, rule, e, settled, f)
		}
	}
}

// P9.1: an extra act can be done if it is settled, but not done.
func TestSettledExtra(t *testing.T) {
	// The act 1 is a substitute of 0, and 2 one of 1.
	r := riteOf(5, 4, with(must("a", 0, 5), -1, 1), with(extra("b", 0, 5), -1, 2), extra("c", 0, 5))
	for i, c := range []struct {
		l        []api.Deed
		at, rule int
		settled  []int
		complete bool
	}{
		{course(0, 2), -1, 0, acts(1, 2), false},
		{course(0, 2, 0, 1), -1, 0, acts(0, 1, 2), true},
		{course(0, 2, 0, 0), -1, 0, acts(0, 1, 2), true},
		{course(0, 1), -1, 0, acts(0, 1), true},
		{course(0, 1, 0, 2), 1, 5, nil, false},
		{course(0, 1, 0, 0), 1, 2, nil, false},
		{course(0, 0, 0, 1), 1, 5, nil, false},
		{course(0, 0, 0, 2), -1, 0, acts(0, 1, 2), true},
	} {
		at, rule, e := rite.Judge(r, c.l)
		settled, f := rite.Settled(r, c.l)
		complete, g := rite.Complete(r, c.l)
		if at != c.at || rule != c.rule || e != api.OK || !slices.Equal(settled, c.settled) || complete != c.complete || f != g || (f == api.OK) != (c.rule == 0) {
			t.Error(i, at, rule, e, settled, f, complete, g)
		}
	}
}

// P9.2: what is settled, and whether that is all.
func TestSettled(t *testing.T) {
	v := vow(2)
	for i, c := range []struct {
		r        api.Rite
		l        []api.Deed
		settled  []int
		complete bool
		e        api.Errno
	}{
		{fire(1), nil, nil, false, api.OK},
		{fire(1), course(3, 2), acts(0, 2), false, api.OK},
		{fire(1), course(0, 0, 1, 1), acts(0, 1), true, api.OK},
		{fire(2), course(3, 2, 3, 1), acts(0, 1, 2), true, api.OK},
		{fire(1), course(1, 1), nil, false, api.ErrState},
		{fire(1), course(0, 0, 1, 1, 1, 1), nil, false, api.ErrState},
		{v, course(5, 5), acts(1, 4, 5), false, api.OK},
		{v, course(0, 0, 2, 4), acts(0, 1, 4), false, api.OK},
		{v, course(0, 0, 1, 1, 2, 2), acts(0, 1, 2), false, api.OK},
		{v, course(0, 0, 1, 1, 2, 2, 3, 3), acts(0, 1, 2, 3), true, api.OK},
		{v, course(3, 3, 3, 6), acts(0, 3, 6), false, api.OK},
		{v, course(3, 6), nil, false, api.ErrState},
		{riteOf(3, 1, extra("a", 0, 3)), nil, nil, true, api.OK},
		{riteOf(3, 1, must("a", 0, 3)), nil, nil, false, api.OK},
		{many(10), course(0, 9, 0, 0, 30, 5), acts(0, 5, 9), false, api.OK},
	} {
		settled, e := rite.Settled(c.r, c.l)
		complete, f := rite.Complete(c.r, c.l)
		if !slices.Equal(settled, c.settled) || complete != c.complete || e != c.e || f != c.e {
			t.Error(i, settled, e, complete, f)
		}
	}
}

// someBroken returns a deed that breaks a rule after a course, if one is found.
func someBroken(next func(n int) int, r api.Rite, l []api.Deed, rule int) []api.Deed {
	for range 30 {
		d := api.Deed{Day: modelDay(l) + next(6) - 1, Act: next(len(r.Acts)+2) - 1}
		if modelBroken(r, l, d) == rule {
			return []api.Deed{d}
		}
	}
	return nil
}

// P9.1, P9.2: as in the model, also for courses that are not right.
func TestJudgeAsModel(t *testing.T) {
	next := pseudo()
	seen := map[int]int{}
	for range 20000 {
		r := someRite(next, 10, 31)
		l := someCourse(next, r)
		if meant := next(7); meant > 0 {
			l = append(l, someBroken(next, r, l, meant)...)
		}
		if next(3) == 0 {
			l = slices.Insert(l, next(len(l)+1), api.Deed{Day: modelDay(l) + next(3) - 1, Act: next(len(r.Acts)+2) - 1})
		}
		wantAt, wantRule := modelJudge(r, l)
		at, rule, e := rite.Judge(r, l)
		if at != wantAt || rule != wantRule || e != api.OK {
			t.Error(r, l, at, rule, e, wantAt, wantRule)
		}
		seen[rule]++
		settled, e := rite.Settled(r, l)
		complete, f := rite.Complete(r, l)
		if rule != 0 {
			if settled != nil || complete || e != api.ErrState || f != api.ErrState {
				t.Error(r, l, settled, complete, e, f)
			}
			continue
		}
		want := modelThose(r, func(act int) bool { return modelSettled(r, l, act) })
		if !slices.Equal(settled, want) || complete != modelComplete(r, l) || e != api.OK || f != api.OK {
			t.Error(r, l, settled, want, complete, e, f)
		}
	}
	for rule := range 7 {
		if seen[rule] < 50 {
			t.Error("only so many courses:", rule, seen[rule])
		}
	}
}
