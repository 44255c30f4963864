package school

import (
	"slices"

	"chiti/api"
)

// scope is the cases in which a rule applies: for each feature the set of its choices. If there is no such case all sets are empty, so that rules that apply in the same cases have the same scope.
type scope [api.MaxFeatures]int

// code is a valid school, with the scopes of its rules.
type code struct {
	api.School
	scopes []scope
}

func codeOf(s api.School) code {
	c := code{School: s}
	for _, r := range s.Rules {
		c.scopes = append(c.scopes, c.scopeOf(r))
	}
	return c
}

// allOf returns the set of all of so many choices.
func allOf(choices int) int { return 1<<choices - 1 }

func (c code) scopeOf(r api.Rule) scope {
	var s scope
	for feature, choices := range c.Features {
		s[feature] = allOf(choices)
	}
	for _, t := range r.When {
		s[t.Feature] &= t.Choices
	}
	if slices.Contains(s[:len(c.Features)], 0) {
		return scope{}
	}
	return s
}

// has reports whether a case belongs to a scope.
func (s scope) has(choices []int) bool {
	for feature, choice := range choices {
		if s[feature]>>choice&1 == 0 {
			return false
		}
	}
	return true
}

// isIn reports whether each case of a scope belongs to another one, too.
func (s scope) isIn(other scope) bool {
	for feature, set := range s {
		if set&^other[feature] != 0 {
			return false
		}
	}
	return true
}

func (c code) isMoreSpecial(rule, other int) bool {
	return c.scopes[rule] != c.scopes[other] && c.scopes[rule].isIn(c.scopes[other])
}

// decide returns what the rules say that decide a question in a case, and their numbers.
func (c code) decide(choices []int, question int) (say int, by []int, e api.Errno) {
	var heard []int
	for rule, r := range c.Rules {
		if r.Ask == question && c.scopes[rule].has(choices) {
			heard = append(heard, rule)
		}
	}
	for _, rule := range heard {
		prevails := func(other int) bool { return c.isMoreSpecial(other, rule) }
		if !slices.ContainsFunc(heard, prevails) {
			by = append(by, rule)
		}
	}
	if len(by) == 0 {
		return 0, nil, api.ErrNone
	}
	say = c.Rules[by[0]].Say
	contradicts := func(rule int) bool { return c.Rules[rule].Say != say }
	if slices.ContainsFunc(by, contradicts) {
		return 0, nil, api.ErrClash
	}
	return say, by, api.OK
}

// cases returns a function that yields all cases in their order, each in memory of its own.
func (c code) cases() func(yield func(choices []int) bool) {
	return func(yield func(choices []int) bool) {
		all := 1
		for _, choices := range c.Features {
			all *= choices
		}
		for number := range all {
			if !yield(c.caseOf(number)) {
				return
			}
		}
	}
}

// caseOf returns the case with a number. Choices are its digits, and that of the last feature is the lowest one.
func (c code) caseOf(number int) []int {
	l := make([]int, len(c.Features))
	for feature, choices := range slices.Backward(c.Features) {
		l[feature] = number % choices
		number /= choices
	}
	return l
}
