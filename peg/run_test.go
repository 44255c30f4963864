package peg

import (
	"slices"
	"testing"

	"chiti/api"
)

// P3.1: the pegs of constructions, those of the chapter's examples among them.
func TestRun(t *testing.T) {
	for _, c := range []struct {
		p, q, steps string
		want        []string // the pegs behind those at the start
	}{
		{"0 0", "1 0", "", nil},
		{"r2 -1/3", "1+r5 100000", "", nil},
		// A square on the cord from the peg 0 to the peg 1, and what is put along it.
		{"0 0", "1 0", "line 0 1,gnomon 0 0,circle 0 0 1,cut 1 0 1,", []string{"0 1"}},
		{"0 0", "1 0", "line 0 1,gnomon 0 0,circle 0 0 1,cut 1 0 1,along 0 1 1 2,", []string{"0 1", "r2 0"}},
		{"0 0", "1 0", "line 0 1,gnomon 0 0,circle 0 0 1,cut 1 0 1,along 0 1 0 2,", []string{"0 1", "1 0"}},
		{"0 0", "1 0", "circle 0 0 1,circle 1 0 1,join 0 1 0,", []string{"1/2 r3/2"}},
		{"0 0", "1 0", "mark 0 1 1/3,", []string{"1/3 0"}},
		// Both pegs where a line cuts a circle: the first one is that nearer to the line's beginning, seen along the line.
		{"0 0", "3 4", "line 0 1,circle 0 0 1,cut 0 0 0,cut 0 0 1,", []string{"-3 -4", "3 4"}},
		{"0 0", "3 4", "line 1 0,circle 0 0 1,cut 0 0 0,cut 0 0 1,", []string{"3 4", "-3 -4"}},
		{"0 0", "1 0", "mark 0 1 5/1,line 0 1,circle 2 0 1,cut 0 0 0,cut 0 0 1,", []string{"5 0", "4 0", "6 0"}},
		{"0 0", "1 0", "mark 0 1 -5/1,line 0 1,circle 2 0 1,cut 0 0 0,cut 0 0 1,", []string{"-5 0", "-6 0", "-4 0"}},
		// A line that touches a circle has the same peg twice.
		{"0 0", "1 0", "line 0 1,gnomon 1 0,circle 0 0 1,cut 1 0 0,cut 1 0 1,", []string{"1 0", "1 0"}},
		// Both pegs where circles meet: the first one is to the left of the way from center to center.
		{"0 0", "1 0", "circle 0 0 1,circle 1 0 1,join 0 1 0,join 0 1 1,join 1 0 0,join 1 0 1,", []string{"1/2 r3/2", "1/2 -r3/2", "1/2 -r3/2", "1/2 r3/2"}},
		{"0 0", "0 5", "mark 0 1 3/5,circle 0 0 1,circle 2 0 2,join 0 1 0,join 0 1 1,", []string{"0 3", "-5r11/6 25/6", "5r11/6 25/6"}},
		// Circles that touch from outside and from inside.
		{"0 0", "1 0", "mark 0 1 3/1,circle 0 0 1,circle 2 1 2,join 0 1 0,join 0 1 1,", []string{"3 0", "1 0", "1 0"}},
		{"0 0", "1 0", "mark 0 1 2/1,circle 0 0 2,circle 1 0 1,join 0 1 0,join 1 0 1,", []string{"2 0", "2 0", "2 0"}},
		// Marks on the cord, behind it and ahead of it; also on a cord without a length.
		{"1 1", "3 5", "mark 0 1 1/2,mark 0 1 0/1,mark 0 1 1/1,mark 0 1 3/2,mark 0 1 -1/2,mark 1 0 1/2,mark 0 1 2/4,mark 1 1 7/3,", []string{"2 3", "1 1", "3 5", "4 7", "0 -1", "2 3", "2 3", "3 5"}},
		{"0 0", "1 0", "mark 0 1 100000/1,mark 0 1 -100000/1,mark 0 1 1/100000,mark 0 1 100000/100000,", []string{"100000 0", "-100000 0", "1/100000 0", "1 0"}},
		// Crossings of lines, of which some end before the place, and of gnomons.
		{"0 0", "4 0", "line 0 1,mark 0 1 5/4,gnomon 2 0,gnomon 0 1,cross 0 1,cross 1 0,cross 2 1,", []string{"5 0", "5 0", "5 0", "5 0"}},
		{"0 0", "2 2", "line 0 1,gnomon 1 0,mark 0 1 1/2,gnomon 2 1,cross 0 1,cross 2 1,", []string{"1 1", "2 2", "2 2"}},
		{"0 0", "1 0", "line 0 1,gnomon 0 0,circle 0 0 1,cut 1 0 1,line 1 2,gnomon 0 2,cross 2 3,cross 3 2,", []string{"0 1", "1/2 1/2", "1/2 1/2"}},
		// A cord of no length puts the peg where the way begins.
		{"2 3", "5 7", "along 0 1 0 0,along 1 0 0 1,along 0 1 1 0,", []string{"2 3", "2 3", "5 7"}},
		// Numbers with roots.
		{"0 0", "1+r2 r3", "line 0 1,gnomon 0 0,circle 1 0 1,circle 0 0 1,join 0 1 0,", []string{"(4+r2)/2 -r6/2"}},
		{"0 0", "1 1", "along 0 1 0 1,circle 0 0 1,line 0 1,cut 0 0 1,mark 0 3 1/2,", []string{"1 1", "1 1", "1/2 1/2"}},
	} {
		start := pair(t, c.p, c.q)
		want := append(start[:], ats(t, c.want...)...)
		pegs, at, e := Run(start, steps(t, c.steps))
		if !samePoints(pegs, want) || at != 0 || e != api.OK {
			t.Errorf("%q %q %q: %s %d %d", c.p, c.q, c.steps, toldPoints(pegs), at, e)
		}
	}
}

// P3.1: what Run refuses ahead of the steps, and in which order.
func TestRunErrors(t *testing.T) {
	bad := []api.PegStep{{}}
	for i, c := range []struct {
		p, q string
		l    []api.PegStep
		e    api.Errno
	}{
		{"no 0", "no 0", make([]api.PegStep, api.MaxSteps+1), api.ErrLong},
		{"0 0", "1 0", make([]api.PegStep, api.MaxSteps), api.ErrForm},
		{"no 0", "1 0", bad, api.ErrArg},
		{"0 no", "1 0", bad, api.ErrArg},
		{"0 0", "no 0", bad, api.ErrArg},
		{"0 0", "0 no", bad, api.ErrArg},
		{"no no", "no no", bad, api.ErrArg},
		{"1+r2 1/2", "1+r2 1/2", bad, api.ErrTwice},
		{"1+r2 1/2", "1+r2 1/3", bad, api.ErrForm},
		{"1+r2 1/2", "1+r3 1/2", bad, api.ErrForm},
	} {
		if pegs, at, e := Run(pair(t, c.p, c.q), c.l); pegs != nil || at != 0 || e != c.e {
			t.Error(i, pegs, at, e)
		}
	}
	forty := slices.Repeat(steps(t, "mark 0 1 1/2,"), api.MaxSteps)
	if pegs, at, e := Run(unit(t), forty); len(pegs) != api.MaxSteps+2 || at != 0 || e != api.OK {
		t.Error(len(pegs), at, e)
	}
}

// P3.1: which steps have the form of their kind.
func TestForms(t *testing.T) {
	all := []api.PegKind{api.PegLine, api.PegCircle, api.PegCross, api.PegCut, api.PegJoin, api.PegMark, api.PegGnomon, api.PegAlong}
	fields := []func(s *api.PegStep) *int{
		func(s *api.PegStep) *int { return &s.A }, func(s *api.PegStep) *int { return &s.B },
		func(s *api.PegStep) *int { return &s.C }, func(s *api.PegStep) *int { return &s.D },
		func(s *api.PegStep) *int { return &s.N },
		func(s *api.PegStep) *int { return &s.Num }, func(s *api.PegStep) *int { return &s.Den },
	}
	// The numbers of the fields that are named for a kind.
	named := map[api.PegKind][]int{
		api.PegLine: {0, 1}, api.PegCircle: {0, 1, 2}, api.PegCross: {0, 1}, api.PegCut: {0, 1, 4}, api.PegJoin: {0, 1, 4},
		api.PegMark: {0, 1, 5, 6}, api.PegGnomon: {0, 1}, api.PegAlong: {0, 1, 2, 3},
	}
	// What a field that is named may be; all others may be 0 alone.
	allowed := []func(n int) bool{
		func(int) bool { return true }, func(int) bool { return true }, func(int) bool { return true }, func(int) bool { return true },
		func(n int) bool { return n == 0 || n == 1 },
		func(n int) bool { return -100000 <= n && n <= 100000 },
		func(n int) bool { return 1 <= n && n <= 100000 },
	}
	for _, kind := range all {
		for i, field := range fields {
			for _, n := range append(extremes(), -100000, -2, 4, 40) {
				s := api.PegStep{Kind: kind}
				if kind == api.PegMark {
					s.Den = 7
				}
				*field(&s) = n
				formed := n == 0
				if slices.Contains(named[kind], i) {
					formed = allowed[i](n)
				}
				pegs, at, e := Run(unit(t), []api.PegStep{{Kind: api.PegMark, Den: 1}, s})
				if (e == api.ErrForm) == formed || e != api.OK && (at != 1 || pegs != nil) {
					t.Error(s, pegs, at, e)
				}
			}
		}
	}
	for _, kind := range []api.PegKind{-1, 0, 9, 100, 1 << 40, -1 << 63} {
		if pegs, at, e := Run(unit(t), []api.PegStep{{Kind: api.PegMark, Den: 1}, {Kind: kind, B: 1}}); pegs != nil || at != 1 || e != api.ErrForm {
			t.Error(kind, pegs, at, e)
		}
	}
}

// P3.1: which pegs, lines and circles a step may use: those of its own kinds that are there.
func TestWhatIsThere(t *testing.T) {
	// Afterwards there are five pegs, of which no two are at the same point, three lines and four circles.
	before := "line 0 1,gnomon 0 0,circle 0 0 1,circle 1 0 1,mark 0 1 1/2,mark 0 1 2/1,mark 0 1 3/1,line 2 3,circle 3 0 1,circle 0 0 3,"
	for _, c := range []struct {
		s      api.PegStep
		counts [4]int // of what A, B, C and D are numbers; 0 if they are not named
	}{
		{api.PegStep{Kind: api.PegLine, A: 0, B: 1}, [4]int{5, 5, 0, 0}},
		{api.PegStep{Kind: api.PegCircle, A: 0, B: 1, C: 2}, [4]int{5, 5, 5, 0}},
		{api.PegStep{Kind: api.PegCross, A: 0, B: 1}, [4]int{3, 3, 0, 0}},
		{api.PegStep{Kind: api.PegCut, A: 0, B: 0}, [4]int{3, 4, 0, 0}},
		{api.PegStep{Kind: api.PegJoin, A: 0, B: 1}, [4]int{4, 4, 0, 0}},
		{api.PegStep{Kind: api.PegMark, A: 0, B: 1, Den: 1}, [4]int{5, 5, 0, 0}},
		{api.PegStep{Kind: api.PegGnomon, A: 0, B: 1}, [4]int{5, 3, 0, 0}},
		{api.PegStep{Kind: api.PegAlong, A: 0, B: 1, C: 2, D: 3}, [4]int{5, 5, 5, 5}},
	} {
		l := steps(t, before)
		if _, at, e := Run(unit(t), append(l, c.s)); at != 0 || e != api.OK {
			t.Error(c.s, at, e)
		}
		for i, count := range c.counts {
			if count == 0 {
				continue
			}
			for n := -2; n < 9; n++ {
				s := c.s
				*[]*int{&s.A, &s.B, &s.C, &s.D}[i] = n
				pegs, at, e := Run(unit(t), append(l, s))
				there := 0 <= n && n < count
				meets := s.Kind != api.PegCross && s.Kind != api.PegCut && s.Kind != api.PegJoin
				if !there && (e != api.ErrNone || at != len(l) || pegs != nil) || there && meets && e == api.ErrNone {
					t.Error(s, pegs, at, e)
				}
			}
		}
	}
}

// P3.1: the step of an error, the order of the errors of a step, and no peg where there is no meeting point.
func TestStepErrors(t *testing.T) {
	far := api.PegStep{Kind: api.PegMark, B: 1, Num: 100000, Den: 1}
	for i, c := range []struct {
		p, q, text string
		more       []api.PegStep
		at         int
		e          api.Errno
	}{
		// The first step with an error decides.
		{"0 0", "1 0", "mark 0 2 1/1,", []api.PegStep{{}}, 0, api.ErrNone},
		{"0 0", "1 0", "line 0 0,", []api.PegStep{{}}, 0, api.ErrTwice},
		{"0 0", "2 0", "line 0 1,", []api.PegStep{far, {}}, 1, api.ErrOver},
		// The form, what is not there, the same point: in this order.
		{"0 0", "1 0", "", []api.PegStep{{Kind: api.PegLine, A: 5, B: 5, N: 1}}, 0, api.ErrForm},
		{"0 0", "1 0", "", []api.PegStep{{Kind: api.PegAlong, A: 0, B: 0, C: 0, D: 2}}, 0, api.ErrNone},
		{"0 0", "1 0", "", []api.PegStep{{Kind: api.PegAlong, A: 0, B: 0, C: -1, D: 0}}, 0, api.ErrNone},
		{"0 0", "1 0", "", []api.PegStep{{Kind: api.PegCircle, A: 2, B: 0, C: 0}}, 0, api.ErrNone},
		{"0 0", "1 0", "line 1 1,", nil, 0, api.ErrTwice},
		{"0 0", "1 0", "mark 0 1 0/5,line 2 0,", nil, 1, api.ErrTwice},
		{"0 0", "1 0", "circle 0 1 1,", nil, 0, api.ErrTwice},
		{"0 0", "1 0", "circle 0 0 1,circle 0 1 0,circle 1 1 0,", nil, 0, api.OK},
		{"0 0", "1 0", "mark 0 1 1/1,circle 0 2 1,", nil, 1, api.ErrTwice},
		{"0 0", "1 0", "mark 0 1 1/1,along 2 1 0 1,", nil, 1, api.ErrTwice},
		{"0 0", "1 0", "mark 0 1 1/1,along 0 1 2 1,", nil, 0, api.OK},
		// The same point is named ahead of the errors of chapter 1, even if the other cord has one.
		{"0 0", "100000 100000", "along 0 0 0 1,", nil, 0, api.ErrTwice},
		{"0 0", "100000 100000", "along 0 1 0 0,", nil, 0, api.ErrOver},
		// Lines that do not meet, or are the same.
		{"0 0", "1 0", "line 0 1,line 1 0,cross 0 1,", nil, 2, api.ErrNone},
		{"0 0", "1 0", "line 0 1,cross 0 0,", nil, 1, api.ErrNone},
		{"0 0", "1 0", "line 0 1,gnomon 0 0,gnomon 1 0,cross 1 2,", nil, 3, api.ErrNone},
		// A line that misses a circle by little.
		{"0 0", "1 0", "line 0 1,circle 0 0 1,mark 0 1 101/100,gnomon 2 0,cut 1 0 1,", nil, 4, api.ErrNone},
		{"0 0", "1 0", "line 0 1,circle 0 0 1,mark 0 1 3/1,gnomon 2 0,cut 1 0 0,", nil, 4, api.ErrNone},
		// Circles with the same center, apart from each other, and one inside of the other.
		{"0 0", "1 0", "circle 0 0 1,join 0 0 0,", nil, 1, api.ErrNone},
		{"0 0", "1 0", "mark 0 1 2/1,circle 0 0 1,circle 0 0 2,join 0 1 1,", nil, 3, api.ErrNone},
		{"0 0", "1 0", "mark 0 1 21/10,circle 0 0 1,circle 2 0 1,join 0 1 0,", nil, 3, api.ErrNone},
		{"0 0", "1 0", "mark 0 1 3/1,circle 0 0 2,circle 1 0 1,join 0 1 0,", nil, 3, api.ErrNone},
		// Numbers that are too great, have too many terms, or no root.
		{"100000 0", "99999 1", "mark 0 1 -1/1,", nil, 0, api.ErrOver},
		{"-100000 0", "1 0", "mark 0 1 1/1,", nil, 0, api.ErrOver},
		{"0 0", "1 r2", "line 0 1,gnomon 0 0,circle 0 0 1,cut 1 0 1,", nil, 0, api.OK},
		{"0 0", "1+r2 1", "line 0 1,circle 0 0 1,gnomon 0 0,cut 1 0 1,along 0 1 1 2,", nil, 0, api.OK},
		{"0 0", "1+r2+r3 1", "circle 0 0 1,circle 1 0 1,join 0 1 0,", nil, 2, api.ErrSurd},
		{"0 0", "1+r2 1", "mark 0 1 1/2,line 0 1,circle 0 1 2,cut 0 0 1,", nil, 0, api.OK},
		{"1+r2+r3+r6 0", "r5 0", "line 0 1,gnomon 0 0,", nil, 1, api.ErrFull},
	} {
		pegs, at, e := Run(pair(t, c.p, c.q), append(steps(t, c.text), c.more...))
		if at != c.at || e != c.e || (e != api.OK) != (pegs == nil) {
			t.Error(i, toldPoints(pegs), at, e)
		}
	}
}
