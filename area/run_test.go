package area_test

import (
	"slices"
	"strings"
	"testing"

	"chiti/api"
	"chiti/area"
)

// P4.3 and P4.4: the plots that runs make, and the areas that they have.
func TestRun(t *testing.T) {
	for _, c := range []struct {
		plots          []string
		changes, run   string
		areas          string
		at             int
		runError, more api.Errno
	}{
		{nil, "", "", "", 0, 0, 0},
		{[]string{"square 2"}, "", "square 2,", "4,", 0, 0, 0},
		{[]string{"square 2", "oblong 1 1+r2"}, "times 0 9/4,less 2 0,rhomb 3 5,", "square 2,oblong 1 1+r2,square 3,square r5,rhomb 5 2,", "4,1+r2,9,5,5,", 0, 0, 0},
		{[]string{"trapezium 24 30 36"}, "triangle 0 36,oblong 1 27,square 2,trapezium 0 54 1/2,rhomb 4 9,", "trapezium 24 30 36,triangle 36 54,oblong 27 36,square 18r3,trapezium 54 27 24,rhomb 9 216,", "972,972,972,972,972,972,", 0, 0, 0},
		{[]string{"square 1"}, "join 0 0,join 1 0,join 2 0,less 3 1,times 3 1/4,", "square 1,square r2,square r3,square 2,square r2,square 1,", "1,2,3,4,2,1,", 0, 0, 0},
		// Sides that are no numbers have areas all the same.
		{[]string{"oblong 1 1+r2"}, "square 0,", "", "1+r2,1+r2,", 0, api.ErrSurd, 0},
		{[]string{"square 2", "oblong 1 1+r2"}, "oblong 0 3,join 0 1,times 3 1/2,less 4 1,oblong 5 1+r2+r3,", "", "4,1+r2,4,5+r2,(5+r2)/2,(3-r2)/2,(3-r2)/2,", 1, api.ErrSurd, 0},
		{[]string{"oblong 1 1009"}, "square 0,triangle 1 1/100000,trapezium 2 60000 1/1,rhomb 3 1/99,", "", "1009,1009,1009,1009,1009,", 0, api.ErrOver, 0},
		{[]string{"oblong 1 60000"}, "triangle 0 1,rhomb 0 1,trapezium 0 1 1/1,less 0 0,", "", "", 0, api.ErrOver, api.ErrRange},
	} {
		l, run := plots(t, c.plots...), changes(t, c.changes)
		made, at, e := area.Run(l, run)
		if toldPlots(made) != c.run || at != c.at || e != c.runError || e != api.OK && len(made) != 0 {
			t.Error(c.plots, c.changes, toldPlots(made), at, e)
		}
		areas, at, e := area.Areas(l, run)
		if toldNumbers(areas) != c.areas || e != c.more || e == api.OK && at != 0 || e != api.OK && (len(areas) != 0 || at != len(run)-1) {
			t.Error(c.plots, c.changes, toldNumbers(areas), at, e)
		}
	}
}

// P4.3 and P4.4: the errors of runs and areas, and where they are.
func TestRunErrors(t *testing.T) {
	for _, c := range []struct {
		plots    []string
		changes  string
		at       int
		e        api.Errno
		where    int
		areaFail api.Errno
	}{
		{[]string{"square 1", "square"}, "", 0, api.ErrArg, 0, api.ErrArg},
		{[]string{"square 1", "square"}, "square 9,", 0, api.ErrArg, 0, api.ErrArg},
		{[]string{"square 1000", "square"}, "", 0, api.ErrArg, 0, api.ErrArg},
		{nil, "square 0,", 0, api.ErrNone, 0, api.ErrNone},
		{[]string{"square 1"}, "square 1,", 0, api.ErrNone, 0, api.ErrNone},
		{[]string{"square 1"}, "square 0,square 1,square 3,", 2, api.ErrNone, 2, api.ErrNone},
		{[]string{"square 1"}, "square 0,square 0,square -1,", 2, api.ErrNone, 2, api.ErrNone},
		{[]string{"square 1"}, "square 0,join 1 2,", 1, api.ErrNone, 1, api.ErrNone},
		{[]string{"square 1"}, "square 0,less 2 0,", 1, api.ErrNone, 1, api.ErrNone},
		{[]string{"square 1"}, "square 0,less 0 1,square 9,", 1, api.ErrRange, 1, api.ErrRange},
		{[]string{"square 1"}, "square 0,less 0 1,oblong 0 0,", 1, api.ErrRange, 1, api.ErrRange},
		{[]string{"square 1"}, "square 0,oblong 0 0,less 0 1,", 1, api.ErrArg, 1, api.ErrArg},
		{[]string{"square 1"}, "square 0,oblong 9 0,less 0 1,", 1, api.ErrArg, 1, api.ErrArg},
		// Areas looks at all plots, Run only at those that changes use.
		{[]string{"square 2", "square 1000"}, "square 0,", 0, api.OK, 0, api.ErrOver},
		{[]string{"square 2", "square 1000"}, "square 0,oblong 0 0,", 1, api.ErrArg, 0, api.ErrOver},
		{[]string{"square 2", "square 1000"}, "square 0,oblong 1 1,", 1, api.ErrOver, 0, api.ErrOver},
		{[]string{"oblong 1+r2+r3 1+r5", "square 1000"}, "square 1,", 0, api.ErrOver, 0, api.ErrFull},
		{[]string{"square 1000", "oblong 1+r2+r3 1+r5"}, "square 1,", 0, api.ErrFull, 0, api.ErrOver},
		// Sums, differences and products of areas are refused like others.
		{[]string{"oblong 1 60000"}, "oblong 0 1,join 0 0,", 1, api.ErrOver, 1, api.ErrOver},
		{[]string{"oblong 1 60000"}, "oblong 0 1,times 0 2/1,", 1, api.ErrOver, 1, api.ErrOver},
		{[]string{"oblong 1 1+r2+r3", "oblong 1 r5+r7"}, "oblong 0 1,join 0 1,", 1, api.ErrFull, 1, api.ErrFull},
		{[]string{"oblong 1 1+r2+r3", "oblong 1 r5+r7"}, "oblong 0 1,less 1 0,", 1, api.ErrFull, 1, api.ErrFull},
		{[]string{"oblong 1 1+r2+r3", "oblong 1 r5+r7"}, "oblong 0 1,less 0 1,", 1, api.ErrRange, 1, api.ErrRange},
		{[]string{"square 1/300", "oblong 1/99999 1"}, "oblong 0 1,less 0 1,", 1, api.ErrOver, 1, api.ErrOver},
		// With sides that are no numbers, only Run ends there.
		{[]string{"oblong 1 1+r2"}, "oblong 0 1,square 0,less 0 2,", 1, api.ErrSurd, 2, api.ErrRange},
		{[]string{"oblong 1 1+r2"}, "oblong 0 1,square 0,square 4,", 1, api.ErrSurd, 2, api.ErrNone},
		{[]string{"oblong 1 1+r2"}, "oblong 0 1,square 0,square 2,times 2 0/1,", 1, api.ErrSurd, 3, api.ErrArg},
	} {
		l, run := plots(t, c.plots...), changes(t, c.changes)
		made, at, e := area.Run(l, run)
		if at != c.at || e != c.e || e != api.OK && len(made) != 0 {
			t.Error(c.plots, c.changes, toldPlots(made), at, e)
		}
		areas, at, e := area.Areas(l, run)
		if len(areas) != 0 || at != c.where || e != c.areaFail {
			t.Error(c.plots, c.changes, toldNumbers(areas), at, e)
		}
	}
}

// P4.3 and P4.4: up to 20 plots and 20 changes; more of them are the first error.
func TestLongRuns(t *testing.T) {
	l := slices.Repeat(plots(t, "square 1"), 21)
	var run []api.AreaChange
	for i := range 21 {
		run = append(run, api.AreaChange{Kind: api.ChangeJoin, First: 19 + i})
	}
	made, at, e := area.Run(l[:20], run[:20])
	want := strings.Repeat("square 1,", 20) + "square r2,square r3,square 2,square r5,square r6,square r7,square 2r2,square 3,square r10,square r11,square 2r3,square r13,square r14,square r15,square 4,square r17,square 3r2,square r19,square 2r5,square r21,"
	if toldPlots(made) != want || at != 0 || e != api.OK {
		t.Error(toldPlots(made), at, e)
	}
	areas, at, e := area.Areas(l[:20], run[:20])
	want = strings.Repeat("1,", 20) + "2,3,4,5,6,7,8,9,10,11,12,13,14,15,16,17,18,19,20,21,"
	if toldNumbers(areas) != want || at != 0 || e != api.OK {
		t.Error(toldNumbers(areas), at, e)
	}
	for i, c := range []struct {
		l   []api.Plot
		run []api.AreaChange
		at  int
		e   api.Errno
	}{
		{l, nil, 0, api.ErrLong},
		{l[:20], run, 0, api.ErrLong},
		{nil, run, 0, api.ErrLong},
		{nil, make([]api.AreaChange, 21), 0, api.ErrLong},
		{make([]api.Plot, 21), nil, 0, api.ErrLong},
		{make([]api.Plot, 20), run, 0, api.ErrLong},
		{make([]api.Plot, 20), make([]api.AreaChange, 20), 0, api.ErrArg},
		{l[:20], make([]api.AreaChange, 20), 0, api.ErrArg},
		{l[:20], append(run[:19:19], api.AreaChange{}), 19, api.ErrArg},
		{l[:19], run[:20], 0, api.ErrNone},
		{make([]api.Plot, 1<<16), make([]api.AreaChange, 1<<16), 0, api.ErrLong},
	} {
		if made, at, e := area.Run(c.l, c.run); len(made) != 0 || at != c.at || e != c.e {
			t.Error(i, toldPlots(made), at, e)
		}
		if areas, at, e := area.Areas(c.l, c.run); len(areas) != 0 || at != c.at || e != c.e {
			t.Error(i, toldNumbers(areas), at, e)
		}
	}
}
