package rite_test

import (
	"slices"
	"testing"

	"chiti/api"
	"chiti/rite"
)

// settled tests that a course is right, and returns what is settled after it.
func settled(t *testing.T, r api.Rite, l []api.Deed) []int {
	t.Helper()
	s, e := rite.Settled(r, l)
	if e != api.OK {
		t.Error(r, l, e)
	}
	return s
}

// P9.8: what a deed needs is settled before it, the beginning of a right course is right, and what is settled stays settled.
func TestNothingBeforeItsTime(t *testing.T) {
	next := pseudo()
	needed := 0
	for range 6000 {
		r := someRite(next, 10, 20)
		l := someCourse(next, r)
		before := settled(t, r, nil)
		if len(before) > 0 {
			t.Error(r, before)
		}
		for i, d := range l {
			for _, need := range r.Acts[d.Act].Needs {
				needed++
				if !slices.Contains(before, need) {
					t.Error(r, l, i, need)
				}
			}
			after := settled(t, r, l[:i+1])
			for _, act := range append(before, d.Act) {
				if !slices.Contains(after, act) {
					t.Error(r, l, i, act)
				}
			}
			before = after
		}
	}
	if needed < 500 {
		t.Error("only so many acts were needed:", needed)
	}
}

// P9.9: what Repair returns completes the rite, and none of it is superfluous.
func TestRepaired(t *testing.T) {
	next := pseudo()
	deeds := 0
	for range 5000 {
		r := someRite(next, 10, 31)
		l := someCourse(next, r)
		day := someDay(next, r, l)
		more, e := rite.Repair(r, l, day)
		if e != api.OK {
			continue
		}
		whole := joined(l, more...)
		if !isRight(t, r, whole) || !completes(t, r, whole) {
			t.Error(r, l, day, more)
		}
		for i, d := range more {
			deeds++
			less := joined(l, slices.Delete(slices.Clone(more), i, i+1)...)
			if d.Day < day || isRight(t, r, less) && completes(t, r, less) {
				t.Error(r, l, day, more, i)
			}
		}
		if again, e := rite.Repair(r, whole, modelDay(whole)); len(again) > 0 || e != api.OK {
			t.Error(r, whole, again, e)
		}
	}
	if deeds < 3000 {
		t.Error("only so many deeds:", deeds)
	}
}

// P9.9: a rite that is interrupted anywhere is completed by what Repair returns, deed by deed.
func TestInterrupted(t *testing.T) {
	next := pseudo()
	for range 500 {
		r := someRite(next, 10, 31)
		more, e := rite.Repair(r, nil, 0)
		if e != api.OK {
			continue
		}
		for i := range more {
			l := more[:i]
			if rest, e := rite.Repair(r, l, more[i].Day); !slices.Equal(rest, more[i:]) || e != api.OK {
				t.Error(r, l, rest, more[i:], e)
			}
		}
	}
}

// P9.10: a later day needs no fewer deeds; what is hopeless, and must be done, can not be repaired.
func TestLater(t *testing.T) {
	next := pseudo()
	more, hopeless := 0, 0
	for range 2000 {
		r := someRite(next, 10, 31)
		l := someCourse(next, r)
		before, e := rite.Repair(r, l, modelDay(l))
		latest, f := rite.Latest(r, l)
		if e != f {
			t.Error(r, l, e, f)
		}
		for day := modelDay(l); day <= r.Last; day++ {
			after, f := rite.Repair(r, l, day)
			if e == api.ErrNone && f != api.ErrNone || f == api.OK && len(after) < len(before) || (f == api.OK) != (e == api.OK && day <= latest) {
				t.Error(r, l, day, before, after, e, f, latest)
			}
			if f == api.OK && len(after) > len(before) {
				more++
			}
			lost, g := rite.Hopeless(r, l, day)
			isMust := func(act int) bool { return !r.Acts[act].Extra }
			if slices.ContainsFunc(lost, isMust) {
				hopeless++
				if f != api.ErrNone {
					t.Error(r, l, day, lost, f, g)
				}
			}
			before, e = after, f
		}
	}
	if more < 20 || hopeless < 1000 {
		t.Error("only so many of a sort:", more, hopeless)
	}
}

// P9.11: a course with a deed more is right just if its act is open on its day.
func TestOpen(t *testing.T) {
	next := pseudo()
	open := 0
	for range 3000 {
		r := someRite(next, 10, 31)
		l := someCourse(next, r)
		for day := modelDay(l); day <= r.Last; day++ {
			acts, e := rite.Open(r, l, day)
			if e != api.OK {
				t.Error(r, l, day, e)
			}
			for act := -1; act <= len(r.Acts); act++ {
				if isRight(t, r, joined(l, api.Deed{Day: day, Act: act})) != slices.Contains(acts, act) {
					t.Error(r, l, day, act, acts)
				}
			}
			open += len(acts)
		}
	}
	if open < 5000 {
		t.Error("only so many acts were open:", open)
	}
}

// P9.12: what is written is read as the same course.
func TestByteForByte(t *testing.T) {
	next := pseudo()
	for range 3000 {
		r := someRite(next, 10, 31)
		l := someCourse(next, r)
		s, e := rite.Write(r, l)
		again, line, f := rite.Read(r, s)
		if !slices.Equal(again, l) || line != 0 || e != api.OK || f != api.OK {
			t.Errorf("%v %v %q %v %v %v %v", r, l, s, again, line, e, f)
		}
	}
}
