package school_test

import (
	"slices"
	"testing"

	"chiti/api"
	"chiti/school"
)

// schoolsError tests that all functions with schools have the error ErrArg, whatever else they are given.
func schoolsError(t *testing.T, s api.School) {
	t.Helper()
	for _, n := range []int{-1, 0, 1, 99} {
		for _, c := range [][]int{nil, {0}, {0, 0}, {9}} {
			is, e := school.Special(s, n, n)
			say, by, f := school.Decide(s, c, n)
			silent, split, g := school.Gaps(s, n)
			first, h := school.Differ(s, fines(), n)
			second, k := school.Differ(fines(), s, n)
			third, m := school.Differ(s, s, n)
			if is || say != 0 || by != nil || silent != 0 || split != 0 || first != nil || second != nil || third != nil {
				t.Error(s, n, c, is, say, by, silent, split, first, second, third)
			}
			if e != api.ErrArg || f != api.ErrArg || g != api.ErrArg || h != api.ErrArg || k != api.ErrArg || m != api.ErrArg {
				t.Error(s, n, c, e, f, g, h, k, m)
			}
		}
	}
}

// P11.6: which schools are valid.
func TestCheck(t *testing.T) {
	features := func(l ...int) api.School { return schoolOf(l, 1) }
	questions := func(n int) api.School { return schoolOf(ints(2), n) }
	rules := func(l ...api.Rule) api.School { return schoolOf(ints(2, 3, 4, 1), 2, l...) }
	for i, c := range []struct {
		s  api.School
		ok bool
	}{
		{fines(), true}, {api.School{}, false},
		{features(), false}, {features(1), true}, {features(4), true}, {features(0), false}, {features(5), false}, {features(-1), false}, {features(1<<63 - 1), false}, {features(-1 << 63), false}, {features(64), false}, {features(4, 4, 4, 4, 4), true}, {features(4, 4, 4, 4, 5), false}, {features(0, 4, 4, 4, 4), false}, {features(1, 1, 1, 1, 1, 1), false}, {features(2, 0), false}, {features(make([]int, 1<<18)...), false}, {features(slices.Repeat(ints(1), 1<<18)...), false},
		{questions(0), false}, {questions(1), true}, {questions(4), true}, {questions(5), false}, {questions(-1), false}, {questions(-1 << 63), false}, {questions(1<<63 - 1), false},
		{rules(), true}, {rules(slices.Repeat([]api.Rule{rule(1, 999)}, 12)...), true}, {rules(slices.Repeat([]api.Rule{rule(1, 999)}, 13)...), false}, {rules(make([]api.Rule, 1<<18)...), false},
		{rules(rule(0, 0)), true}, {rules(rule(1, 0)), true}, {rules(rule(2, 0)), false}, {rules(rule(-1, 0)), false}, {rules(rule(1<<63-1, 0)), false}, {rules(rule(-1<<63, 0)), false},
		{rules(rule(0, 999)), true}, {rules(rule(0, 1000)), false}, {rules(rule(0, -1)), false}, {rules(rule(0, 1<<63-1)), false}, {rules(rule(0, -1<<63)), false},
		{rules(rule(0, 0, 0, 0)), true}, {rules(rule(0, 0, 0, 3)), true}, {rules(rule(0, 0, 0, 4)), false}, {rules(rule(0, 0, 0, -1)), false}, {rules(rule(0, 0, 1, 7)), true}, {rules(rule(0, 0, 1, 8)), false}, {rules(rule(0, 0, 2, 15)), true}, {rules(rule(0, 0, 2, 16)), false}, {rules(rule(0, 0, 3, 1)), true}, {rules(rule(0, 0, 3, 2)), false}, {rules(rule(0, 0, 3, 0)), true}, {rules(rule(0, 0, 2, -1)), false}, {rules(rule(0, 0, 2, 1<<63-1)), false}, {rules(rule(0, 0, 2, -1<<63)), false},
		{rules(rule(0, 0, 4, 0)), false}, {rules(rule(0, 0, 4, 1)), false}, {rules(rule(0, 0, 5, 0)), false}, {rules(rule(0, 0, -1, 0)), false}, {rules(rule(0, 0, 1<<63-1, 0)), false}, {rules(rule(0, 0, -1<<63, 0)), false},
		{rules(rule(0, 0, 2, 15, 2, 15, 2, 1, 2, 2, 2, 4)), true}, {rules(rule(0, 0, 2, 15, 2, 15, 2, 1, 2, 2, 2, 4, 2, 4)), false}, {rules(rule(0, 0, 0, 1, 1, 1, 2, 1, 3, 1, 0, 4)), false}, {rules(rule(0, 0, 0, 1, 4, 1)), false}, {rules(rule(0, 0, make([]int, 1<<18)...)), false},
		// Any of the rules can be wrong.
		{rules(rule(0, 0), rule(1, 1, 0, 1), rule(0, 1000)), false}, {rules(rule(2, 0), rule(1, 1, 0, 1), rule(0, 100)), false}, {rules(rule(0, 0), rule(1, 1, 0, 4), rule(0, 100)), false},
	} {
		want := api.ErrArg
		if c.ok {
			want = api.OK
		}
		if e := school.Check(c.s); e != want {
			t.Error(i, e)
		}
		if !c.ok {
			schoolsError(t, c.s)
		}
	}
}

// P11.6: rules that apply in fewer cases than others.
func TestSpecial(t *testing.T) {
	same := schoolOf(ints(2, 3, 1), 2,
		rule(0, 1), rule(1, 2, 0, 3), rule(0, 3, 0, 1), rule(1, 4, 0, 3, 0, 1), rule(0, 5, 1, 3, 0, 1), rule(0, 6, 1, 3), rule(0, 7, 1, 6, 1, 3), rule(0, 8, 1, 2), rule(0, 9, 0, 0), rule(0, 10, 1, 1, 1, 6), rule(0, 11, 2, 1), rule(0, 12, 2, 0))
	for i, want := range [][]int{
		nil, nil, {0, 1, 10}, {0, 1, 10}, {0, 1, 2, 3, 5, 10}, {0, 1, 10}, {0, 1, 5, 10}, {0, 1, 5, 10}, {0, 1, 2, 3, 4, 5, 6, 7, 10}, {0, 1, 2, 3, 4, 5, 6, 7, 10}, nil, {0, 1, 2, 3, 4, 5, 6, 7, 10},
	} {
		for j := range same.Rules {
			if is := special(t, same, i, j); is != slices.Contains(want, j) || is != modelSpecial(same, i, j) {
				t.Error(i, j, is)
			}
		}
	}
	for _, c := range [][2]int{{0, 3}, {3, 0}, {-1, 0}, {0, -1}, {3, 3}, {-1, -1}, {4, 1}, {1, 1<<63 - 1}, {-1 << 63, 1}} {
		if is, e := school.Special(fines(), c[0], c[1]); is || e != api.ErrRange {
			t.Error(c, is, e)
		}
	}
	if is, e := school.Special(schoolOf(ints(1), 1), 0, 0); is || e != api.ErrRange {
		t.Error("a school without rules", is, e)
	}
}

// P11.7: the fourth example of the chapter, and rules that decide together.
func TestDecide(t *testing.T) {
	// Two rules that apply in the same cases, one that applies where they do, one for another question, and one that never applies.
	same := schoolOf(ints(2, 2), 2, rule(0, 5, 0, 1), rule(0, 5, 0, 3, 0, 1), rule(0, 9, 0, 1, 0, 2), rule(1, 7, 0, 1, 1, 1), rule(0, 8))
	// Of three rules each is more special than the one before it; the last one applies in one case.
	steps := schoolOf(ints(2, 2), 1, rule(0, 1), rule(0, 2, 0, 2), rule(0, 3, 0, 2, 1, 2))
	// Rules that decide together say the same, or not.
	both := schoolOf(ints(2, 2), 1, rule(0, 4, 0, 2), rule(0, 4, 1, 2), rule(0, 6, 0, 1), rule(0, 0, 1, 1))
	// A more special rule settles what two others contradict each other in.
	settled := schoolOf(ints(2, 2), 1, rule(0, 1, 0, 2), rule(0, 2, 1, 2), rule(0, 3, 0, 2, 1, 2))
	// A rule that is more special than one of two does not prevail over the other one.
	half := schoolOf(ints(2, 3), 1, rule(0, 1, 0, 2), rule(0, 2, 1, 3), rule(0, 2, 1, 1))
	// Of three rules that decide the last one says something else.
	three := schoolOf(ints(2, 2, 2), 1, rule(0, 1, 0, 2), rule(0, 1, 1, 2), rule(0, 2, 2, 2))
	for i, c := range []struct {
		s        api.School
		c        []int
		question int
		say      int
		by       []int
		e        api.Errno
	}{
		{fines(), ints(0, 1), 0, 200, ints(0), api.OK}, {fines(), ints(1, 1), 0, 999, ints(1), api.OK}, {fines(), ints(1, 0), 0, 0, nil, api.ErrClash}, {fines(), ints(1, 2), 0, 0, nil, api.ErrClash}, {fines(), ints(0, 0), 0, 395, ints(2), api.OK}, {fines(), ints(0, 2), 0, 395, ints(2), api.OK},
		{same, ints(0, 0), 0, 5, ints(0, 1), api.OK}, {same, ints(1, 0), 0, 8, ints(4), api.OK}, {same, ints(0, 0), 1, 7, ints(3), api.OK}, {same, ints(0, 1), 1, 0, nil, api.ErrNone}, {same, ints(0, 1), 0, 5, ints(0, 1), api.OK},
		{steps, ints(0, 0), 0, 1, ints(0), api.OK}, {steps, ints(0, 1), 0, 1, ints(0), api.OK}, {steps, ints(1, 0), 0, 2, ints(1), api.OK}, {steps, ints(1, 1), 0, 3, ints(2), api.OK},
		{both, ints(1, 1), 0, 4, ints(0, 1), api.OK}, {both, ints(0, 0), 0, 0, nil, api.ErrClash}, {both, ints(1, 0), 0, 0, nil, api.ErrClash}, {both, ints(0, 1), 0, 0, nil, api.ErrClash},
		{settled, ints(1, 1), 0, 3, ints(2), api.OK}, {settled, ints(1, 0), 0, 1, ints(0), api.OK}, {settled, ints(0, 1), 0, 2, ints(1), api.OK}, {settled, ints(0, 0), 0, 0, nil, api.ErrNone},
		{half, ints(1, 0), 0, 0, nil, api.ErrClash}, {half, ints(0, 0), 0, 2, ints(2), api.OK}, {half, ints(1, 1), 0, 0, nil, api.ErrClash}, {half, ints(1, 2), 0, 1, ints(0), api.OK},
		{three, ints(1, 1, 0), 0, 1, ints(0, 1), api.OK}, {three, ints(1, 1, 1), 0, 0, nil, api.ErrClash}, {three, ints(0, 0, 1), 0, 2, ints(2), api.OK},
		{schoolOf(ints(1), 1), ints(0), 0, 0, nil, api.ErrNone}, {schoolOf(ints(1), 1, rule(0, 0)), ints(0), 0, 0, ints(0), api.OK}, {schoolOf(ints(1), 4, rule(3, 999)), ints(0), 3, 999, ints(0), api.OK}, {schoolOf(ints(1), 1, rule(0, 3, 0, 0)), ints(0), 0, 0, nil, api.ErrNone}, {schoolOf(ints(1), 1, slices.Repeat([]api.Rule{rule(0, 1)}, 12)...), ints(0), 0, 1, ints(0, 1, 2, 3, 4, 5, 6, 7, 8, 9, 10, 11), api.OK}, {schoolOf(ints(1), 2, rule(0, 1), rule(1, 2)), ints(0), 0, 1, ints(0), api.OK},
		// No such question comes before no such case.
		{fines(), ints(0, 1), 1, 0, nil, api.ErrRange}, {fines(), ints(0, 1), -1, 0, nil, api.ErrRange}, {fines(), nil, 1, 0, nil, api.ErrRange}, {fines(), ints(9), -1, 0, nil, api.ErrRange}, {fines(), ints(0, 1), 1<<63 - 1, 0, nil, api.ErrRange}, {fines(), ints(0, 1), -1 << 63, 0, nil, api.ErrRange}, {same, ints(0, 0), 2, 0, nil, api.ErrRange},
		{fines(), nil, 0, 0, nil, api.ErrForm}, {fines(), ints(0), 0, 0, nil, api.ErrForm}, {fines(), ints(0, 1, 0), 0, 0, nil, api.ErrForm}, {fines(), ints(2, 0), 0, 0, nil, api.ErrForm}, {fines(), ints(0, 3), 0, 0, nil, api.ErrForm}, {fines(), ints(-1, 0), 0, 0, nil, api.ErrForm}, {fines(), ints(0, -1), 0, 0, nil, api.ErrForm}, {fines(), ints(1<<63-1, 0), 0, 0, nil, api.ErrForm}, {fines(), ints(0, -1<<63), 0, 0, nil, api.ErrForm}, {fines(), ints(0, 64), 0, 0, nil, api.ErrForm}, {fines(), make([]int, 1<<18), 0, 0, nil, api.ErrForm},
	} {
		say, by, e := school.Decide(c.s, c.c, c.question)
		if say != c.say || !slices.Equal(by, c.by) || e != c.e || e != api.OK && by != nil {
			t.Error(i, c.c, c.question, say, by, e)
		}
	}
}

// P11.6, P11.7, P11.8: schools as in the model, which goes through all cases.
func TestSchoolsAsModel(t *testing.T) {
	next := pseudo()
	found := map[api.Errno]int{}
	for range 400 {
		s := someSchool(next, 3)
		specials := modelSpecials(s)
		for i := range s.Rules {
			for j := range s.Rules {
				if is := special(t, s, i, j); is != specials[i][j] {
					t.Error(s, i, j, is)
				}
			}
		}
		for question := range s.Questions {
			gaps := map[api.Errno]int{}
			for _, c := range modelCases(s.Features) {
				say, by, e := school.Decide(s, c, question)
				want, wanted, f := modelDecide(s, specials, c, question)
				if say != want || !slices.Equal(by, wanted) || e != f {
					t.Error(s, c, question, say, by, e, want, wanted, f)
				}
				gaps[e]++
				found[e]++
			}
			silent, split, e := school.Gaps(s, question)
			if silent != gaps[api.ErrNone] || split != gaps[api.ErrClash] || e != api.OK {
				t.Error(s, question, silent, split, e, gaps)
			}
		}
	}
	if min(found[api.OK], found[api.ErrNone], found[api.ErrClash]) < 500 {
		t.Error("only so many of a sort:", found)
	}
}

// P11.8: in how many cases nothing is said, and in how many too much.
func TestGaps(t *testing.T) {
	great := ints(4, 4, 4, 4, 4)
	for i, c := range []struct {
		s                       api.School
		question, silent, split int
		e                       api.Errno
	}{
		{fines(), 0, 0, 2, api.OK}, {fines(), 1, 0, 0, api.ErrRange}, {fines(), -1, 0, 0, api.ErrRange}, {fines(), 1<<63 - 1, 0, 0, api.ErrRange}, {fines(), -1 << 63, 0, 0, api.ErrRange},
		{schoolOf(ints(2, 3), 2), 1, 6, 0, api.OK}, {schoolOf(ints(2, 3), 2), 2, 0, 0, api.ErrRange}, {schoolOf(ints(1), 1), 0, 1, 0, api.OK}, {schoolOf(ints(1), 1, rule(0, 1), rule(0, 2)), 0, 0, 1, api.OK}, {schoolOf(ints(1), 1, rule(0, 1), rule(0, 1)), 0, 0, 0, api.OK}, {schoolOf(ints(1), 1, rule(0, 0)), 0, 0, 0, api.OK},
		{schoolOf(great, 1), 0, 1024, 0, api.OK}, {schoolOf(great, 1, rule(0, 1), rule(0, 2)), 0, 0, 1024, api.OK}, {schoolOf(great, 1, rule(0, 1, 0, 8, 1, 8, 2, 8, 3, 8, 4, 8)), 0, 1023, 0, api.OK}, {schoolOf(great, 1, rule(0, 1, 0, 8), rule(0, 2, 4, 1)), 0, 576, 64, api.OK}, {schoolOf(great, 4, rule(3, 1, 0, 8), rule(2, 2, 4, 1)), 3, 768, 0, api.OK},
		{schoolOf(ints(4), 1, rule(0, 1, 0, 7), rule(0, 2, 0, 6), rule(0, 3, 0, 12)), 0, 0, 1, api.OK}, {schoolOf(ints(4), 1, rule(0, 1, 0, 7), rule(0, 2, 0, 6)), 0, 1, 0, api.OK},
	} {
		silent, split, e := school.Gaps(c.s, c.question)
		if silent != c.silent || split != c.split || e != c.e {
			t.Error(i, silent, split, e)
		}
	}
}

// P11.8: the fifth example of the chapter, and what tells schools apart.
func TestDiffer(t *testing.T) {
	two := func(rules ...api.Rule) api.School { return schoolOf(ints(2, 3), 2, rules...) }
	great := ints(4, 4, 4, 4, 4)
	without := fines()
	without.Rules = without.Rules[:2]
	for i, c := range []struct {
		s, t     api.School
		question int
		want     []int
		e        api.Errno
	}{
		{fines(), without, 0, ints(0, 0), api.OK}, {fines(), fines(), 0, nil, api.ErrNone}, {without, without, 0, nil, api.ErrNone},
		// One is silent, contradicts itself, or says another thing.
		{two(rule(0, 0)), two(), 0, ints(0, 0), api.OK}, {two(rule(0, 0)), two(), 1, nil, api.ErrNone}, {two(rule(0, 0), rule(0, 1, 1, 4)), two(rule(0, 0)), 0, ints(0, 2), api.OK}, {two(rule(0, 0), rule(0, 1)), two(rule(0, 0)), 0, ints(0, 0), api.OK}, {two(rule(0, 0), rule(0, 1)), two(), 0, ints(0, 0), api.OK}, {two(rule(0, 1, 0, 2), rule(0, 2, 0, 2)), two(rule(0, 1, 0, 2)), 0, ints(1, 0), api.OK}, {two(rule(0, 1, 0, 2), rule(0, 2, 0, 2)), two(), 0, ints(1, 0), api.OK},
		// Both contradict themselves, or are silent, or say the same by other rules.
		{two(rule(0, 0), rule(0, 1)), two(rule(0, 2), rule(0, 3), rule(0, 4)), 0, nil, api.ErrNone}, {two(rule(0, 1)), two(rule(1, 5), rule(0, 1), rule(0, 1, 0, 1)), 0, nil, api.ErrNone}, {two(rule(0, 1)), two(rule(1, 5), rule(0, 1)), 1, ints(0, 0), api.OK}, {two(rule(0, 1, 0, 1), rule(0, 1, 0, 2)), two(rule(0, 1, 1, 1), rule(0, 1, 1, 6)), 0, nil, api.ErrNone},
		// The first case is meant, though there are others.
		{two(rule(0, 1, 1, 2)), two(rule(0, 1, 1, 4)), 0, ints(0, 1), api.OK}, {two(rule(0, 1, 0, 2)), two(rule(0, 1, 1, 4)), 0, ints(0, 2), api.OK}, {two(rule(0, 1, 0, 2, 1, 4)), two(), 0, ints(1, 2), api.OK}, {two(rule(0, 1, 0, 2)), two(), 0, ints(1, 0), api.OK},
		{schoolOf(great, 1, rule(0, 1, 0, 8, 1, 8, 2, 8, 3, 8, 4, 8)), schoolOf(great, 1), 0, ints(3, 3, 3, 3, 3), api.OK}, {schoolOf(great, 1, rule(0, 1, 1, 8, 3, 4)), schoolOf(great, 1), 0, ints(0, 3, 0, 2, 0), api.OK}, {schoolOf(great, 1, rule(0, 1)), schoolOf(great, 1, rule(0, 1)), 0, nil, api.ErrNone},
		// Errors in their order: the question must be one of both schools.
		{schoolOf(ints(2), 3), schoolOf(ints(2), 2), 2, nil, api.ErrRange}, {schoolOf(ints(2), 3), schoolOf(ints(2), 2), 1, nil, api.ErrNone}, {schoolOf(ints(2), 3), schoolOf(ints(2), 3), 3, nil, api.ErrRange}, {schoolOf(ints(2), 3), schoolOf(ints(2), 3), -1, nil, api.ErrRange}, {schoolOf(ints(2), 3), schoolOf(ints(3), 3), -1, nil, api.ErrRange}, {schoolOf(ints(2), 3), schoolOf(ints(3), 2), 2, nil, api.ErrRange},
		{schoolOf(ints(2), 1), schoolOf(ints(3), 1), 0, nil, api.ErrForm}, {schoolOf(ints(2, 3), 1), schoolOf(ints(3, 2), 1), 0, nil, api.ErrForm}, {schoolOf(ints(2), 1), schoolOf(ints(2, 1), 1), 0, nil, api.ErrForm}, {schoolOf(ints(2), 1, rule(0, 1)), schoolOf(ints(2, 1), 1), 0, nil, api.ErrForm}, {schoolOf(ints(2, 1), 1, rule(0, 1)), schoolOf(ints(2, 2), 1), 0, nil, api.ErrForm},
	} {
		a, e := school.Differ(c.s, c.t, c.question)
		b, f := school.Differ(c.t, c.s, c.question)
		if !slices.Equal(a, c.want) || !slices.Equal(b, c.want) || e != c.e || f != c.e || e != api.OK && (a != nil || b != nil) {
			t.Error(i, a, e, b, f)
		}
	}
}

// varied returns a copy of a school with something else in a rule, or with rules in another order, or with one more or less.
func varied(next func(n int) int, s api.School) api.School {
	s = copied(s)
	if len(s.Rules) == 0 {
		return s
	}
	number := next(len(s.Rules))
	r := &s.Rules[number]
	switch next(6) {
	case 0:
		r.Say = next(5)
	case 1:
		r.Ask = next(s.Questions)
	case 2:
		r.When = someTests(next, s.Features, nil)
	case 3:
		slices.Reverse(s.Rules)
	case 4:
		s.Rules = slices.Delete(s.Rules, number, number+1)
	case 5:
		if len(s.Rules) < api.MaxRules {
			return with(s, *r)
		}
	}
	return s
}

// decision returns what is said and the error.
func decision(s api.School, c []int, question int) [2]int {
	say, _, e := school.Decide(s, c, question)
	return [2]int{say, int(e)}
}

// P11.8, P11.13: schools differ in the case that Differ returns, and in none before it; if there is none, they have the same gaps.
func TestToldApart(t *testing.T) {
	next := pseudo()
	found := map[api.Errno]int{}
	for range 1500 {
		s := someSchool(next, 4)
		other := varied(next, s)
		question := next(s.Questions)
		var want []int
		wanted := api.ErrNone
		for _, c := range modelCases(s.Features) {
			if decision(s, c, question) != decision(other, c, question) {
				want, wanted = c, api.OK
				break
			}
		}
		c, e := school.Differ(s, other, question)
		if !slices.Equal(c, want) || e != wanted {
			t.Error(s, other, question, c, e, want)
		}
		found[e]++
		silent, split, f := school.Gaps(s, question)
		silentOther, splitOther, g := school.Gaps(other, question)
		if f != api.OK || g != api.OK || e == api.ErrNone && (silent != silentOther || split != splitOther) {
			t.Error(s, other, question, silent, split, silentOther, splitOther)
		}
	}
	if min(found[api.OK], found[api.ErrNone]) < 200 {
		t.Error("only so many of a sort:", found)
	}
}

// P11.12: more special is never the same, never both ways round, and is handed on.
func TestLawsOfSpecial(t *testing.T) {
	next := pseudo()
	found := 0
	for range 400 {
		s := someSchool(next, 5)
		for i := range s.Rules {
			for j := range s.Rules {
				isSpecial := special(t, s, i, j)
				if isSpecial && (i == j || special(t, s, j, i) || same(s.Rules[i].When, s.Rules[j].When)) {
					t.Error(s, i, j)
				}
				for k := range s.Rules {
					if isSpecial && special(t, s, j, k) {
						found++
						if !special(t, s, i, k) {
							t.Error(s, i, j, k)
						}
					}
				}
			}
		}
	}
	if found < 1000 {
		t.Error("only so many were found:", found)
	}
}

// P11.12: a rule that is more special than all others that answer a question prevails wherever it applies.
func TestPrevails(t *testing.T) {
	next := pseudo()
	found := 0
	for range 1500 {
		s := someSchool(next, 4)
		for i, r := range s.Rules {
			prevails := true
			for j := range s.Rules {
				prevails = prevails && (j == i || s.Rules[j].Ask != r.Ask || special(t, s, i, j))
			}
			for _, c := range modelCases(s.Features) {
				if !prevails || !modelApplies(r, c) {
					continue
				}
				found++
				if say, by, e := school.Decide(s, c, r.Ask); say != r.Say || !slices.Equal(by, ints(i)) || e != api.OK {
					t.Error(s, i, c, say, by, e)
				}
			}
		}
	}
	if found < 1000 {
		t.Error("only so many were found:", found)
	}
}

// P11.12: a rule that is added changes nothing where it does not apply, and nothing in other questions.
func TestAdded(t *testing.T) {
	next := pseudo()
	for range 500 {
		s := someSchool(next, 3)
		if len(s.Rules) == api.MaxRules {
			continue
		}
		r := api.Rule{When: someTests(next, s.Features, nil), Ask: next(s.Questions), Say: next(9)}
		more := with(s, r)
		for _, c := range modelCases(s.Features) {
			for question := range s.Questions {
				say, by, e := school.Decide(s, c, question)
				other, also, f := school.Decide(more, c, question)
				isFree := question == r.Ask && modelApplies(r, c)
				if !isFree && (say != other || !slices.Equal(by, also) || e != f) {
					t.Error(s, r, c, question, say, by, e, other, also, f)
				}
			}
		}
	}
}
