package yard

import (
	"chiti/api"
	"chiti/school"
)

// rules returns how many rules a school has, if it is valid.
func rules(s *api.School) (string, api.Errno) { return integers(len(s.Rules)), school.Check(*s) }

func (y *Yard) school(w words) (string, api.Errno) {
	return y.schools.add(w.names[0], func(s *api.School) (string, api.Errno) {
		s.Features, s.Questions = w.lists[0], w.integers[0]
		return rules(s)
	})
}

func (y *Yard) rule(w words) (string, api.Errno) {
	return y.schools.change(w.names[0], func(s *api.School) (string, api.Errno) {
		tests, e := paired(w.lists[0], w.lists[1], func(feature, choices int) api.Test { return api.Test{Feature: feature, Choices: choices} })
		if e != api.OK {
			return "", e
		}
		s.Rules = append(s.Rules, api.Rule{When: tests, Ask: w.integers[0], Say: w.integers[1]})
		return rules(s)
	})
}

func (y *Yard) decide(w words) (string, api.Errno) {
	s, e := y.schools.named(w.names[0])
	if e != api.OK {
		return "", e
	}
	say, by, e := school.Decide(s, w.lists[0], w.integers[0])
	return integers(say) + space + list(by), e
}

func (y *Yard) differ(w words) (string, api.Errno) {
	s, e := y.schools.named(w.names[0])
	if e != api.OK {
		return "", e
	}
	other, e := y.schools.named(w.names[1])
	if e != api.OK {
		return "", e
	}
	c, e := school.Differ(s, other, w.integers[0])
	return list(c), e
}
