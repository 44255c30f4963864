package school_test

import (
	"fmt"
	"math"
	"slices"
	"strings"
	"testing"

	"chiti/api"
	"chiti/school"
)

func told(x any) string { return fmt.Sprintf("%+v", x) }

// same reports whether two results are told in the same way; a nil list and an empty one are.
func same(x, y any) bool { return told(x) == told(y) }

// words returns the words of a line.
func words(s string) []string { return strings.Fields(s) }

// times returns so many words, all of them the same.
func times(n int, word string) []string { return slices.Repeat([]string{word}, n) }

func change(at int, old, new string) api.Edit {
	return api.Edit{Kind: api.EditChange, At: at, Old: old, New: new}
}

func drop(at int, old string) api.Edit { return api.Edit{Kind: api.EditDrop, At: at, Old: old} }

func add(at int, new string) api.Edit { return api.Edit{Kind: api.EditAdd, At: at, New: new} }

func edits(l ...api.Edit) []api.Edit { return l }

func ints(l ...int) []int { return l }

// rule returns a rule, and its tests from features and sets of choices.
func rule(ask, say int, tests ...int) api.Rule {
	r := api.Rule{Ask: ask, Say: say}
	for i := 0; i < len(tests); i += 2 {
		r.When = append(r.When, api.Test{Feature: tests[i], Choices: tests[i+1]})
	}
	return r
}

func schoolOf(features []int, questions int, rules ...api.Rule) api.School {
	return api.School{Features: features, Questions: questions, Rules: rules}
}

// fines returns the school of the document's fourth example.
func fines() api.School {
	return schoolOf(ints(2, 3), 1, rule(0, 200), rule(0, 999, 0, 2), rule(0, 395, 1, 5))
}

// copied returns a copy of a school that shares no memory with it.
func copied(s api.School) api.School {
	s.Features, s.Rules = slices.Clone(s.Features), slices.Clone(s.Rules)
	for i := range s.Rules {
		s.Rules[i].When = slices.Clone(s.Rules[i].When)
	}
	return s
}

// with returns a copy of a school that has a further rule.
func with(s api.School, r api.Rule) api.School {
	s = copied(s)
	s.Rules = append(s.Rules, r)
	return s
}

// pseudo returns a function that yields integers from 0 to below n, the same ones in every run.
func pseudo() func(n int) int {
	state := uint64(88172645463325252)
	return func(n int) int {
		state ^= state << 13
		state ^= state >> 7
		state ^= state << 17
		return int(state % uint64(n))
	}
}

func extremes() []int {
	return []int{
		math.MinInt, math.MinInt + 1, -1 << 62, -1 << 32, -1 << 8, -2, -1, 0, 1, 2, 3, 4, 5, 6, 7, 8, 9, 11, 12, 13, 14, 15, 16, 17, 19, 20, 21, 22,
		31, 32, 39, 40, 41, 63, 64, 255, 256, 999, 1000, 1001, 1 << 16, 1<<32 + 1, 1 << 62, math.MaxInt - 1, math.MaxInt,
	}
}

// someWord returns one of so many words.
func someWord(next func(n int) int, kinds int) string {
	return []string{"a", "b", "lay", "brick", "abcdefghijkl", "z", "aa"}[next(kinds)]
}

// someText returns a text with up to so many words.
func someText(next func(n int) int, most int) []string {
	kinds := 1 + next(7)
	var text []string
	for range next(most + 1) {
		text = append(text, someWord(next, kinds))
	}
	return text
}

// someOther returns a text with some of the words of another one.
func someOther(next func(n int) int, text []string) []string {
	var other []string
	for _, word := range text {
		switch next(8) {
		case 0:
		case 1:
			other = append(other, someWord(next, 7))
		case 2:
			other = append(other, someWord(next, 7), word)
		default:
			other = append(other, word)
		}
	}
	return other[:min(len(other), api.MaxWords)]
}

// otherWord returns some word, but not a certain one.
func otherWord(next func(n int) int, word string) string {
	for {
		if other := someWord(next, 7); other != word {
			return other
		}
	}
}

// someEdits returns edits of a text that have the right form; adding comes up one time in so many.
func someEdits(next func(n int) int, text []string, often int) []api.Edit {
	var l []api.Edit
	for at := range len(text) + 1 {
		for next(often) == 0 {
			l = append(l, add(at, someWord(next, 7)))
		}
		if at == len(text) {
			break
		}
		switch next(4) {
		case 0:
			l = append(l, drop(at, text[at]))
		case 1:
			l = append(l, change(at, text[at], otherWord(next, text[at])))
		}
	}
	return l[:min(len(l), api.MaxEdits)]
}

// someCopies returns parents and readings of copies; up to so many readings, from 0 on, are there, and up to so many are lost.
func someCopies(next func(n int) int, most, kinds, lost int) (parents, readings []int) {
	for number := range 1 + next(most) {
		parent := number - 1
		if number > 0 && next(3) > 0 {
			parent = next(number)
		}
		parents, readings = append(parents, parent), append(readings, next(kinds))
	}
	for range next(lost + 1) {
		readings[next(1+next(len(readings)))] = -1
	}
	return parents, readings
}

// someTests returns conditions of a rule; some of them are like those of another rule.
func someTests(next func(n int) int, features []int, like []api.Test) []api.Test {
	var l []api.Test
	if next(3) == 0 {
		l = slices.Clone(like)
	}
	for range next(3) {
		feature := next(len(features))
		l = append(l, api.Test{Feature: feature, Choices: next(1 << features[feature])})
	}
	return l[:min(len(l), api.MaxTests)]
}

// someSchool returns a valid school with up to so many features.
func someSchool(next func(n int) int, most int) api.School {
	s := api.School{Questions: 1 + next(api.MaxQuestions)}
	for range 1 + next(most) {
		s.Features = append(s.Features, 1+next(api.MaxChoices))
	}
	kinds := []int{2, 5, api.MaxSay + 1}[next(3)]
	asked := 1 + next(s.Questions)
	for range next(api.MaxRules + 1) {
		var like []api.Test
		if len(s.Rules) > 0 {
			like = s.Rules[next(len(s.Rules))].When
		}
		s.Rules = append(s.Rules, api.Rule{When: someTests(next, s.Features, like), Ask: next(asked), Say: next(kinds)})
	}
	return s
}

// align tests that two texts are valid, and returns what Align returns.
func align(t *testing.T, a, b []string) []api.Edit {
	t.Helper()
	l, e := school.Align(a, b)
	if e != api.OK {
		t.Error(a, b, e)
	}
	return l
}

// restore tests that Restore has no error, and returns its results.
func restore(t *testing.T, parents, readings []int) ([]int, int) {
	t.Helper()
	all, changes, e := school.Restore(parents, readings)
	if e != api.OK {
		t.Error(parents, readings, e)
	}
	return all, changes
}

// special tests that two rules are there, and returns whether the first one is more special.
func special(t *testing.T, s api.School, i, j int) bool {
	t.Helper()
	is, e := school.Special(s, i, j)
	if e != api.OK {
		t.Error(s, i, j, e)
	}
	return is
}
