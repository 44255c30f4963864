package school_test

import (
	"regexp"
	"slices"
	"strings"

	"chiti/api"
)

// The model follows the chapter word by word, by trying all that there can be.

var modelWord = regexp.MustCompile(`^[a-z]{1,12}$`)

func modelIsText(text []string) bool {
	return len(text) <= 20 && !slices.ContainsFunc(text, func(w string) bool { return !modelWord.MatchString(w) })
}

// modelWays returns all ways to go through two texts: a letter for each word that is kept (a), changed (b), dropped (c) or added (d), so that the way that is meant is the first one in the order of texts.
func modelWays(a, b []string) []string {
	if len(a)+len(b) == 0 {
		return []string{""}
	}
	var all []string
	from := func(step string, rest []string) {
		for _, way := range rest {
			all = append(all, step+way)
		}
	}
	if len(a) > 0 && len(b) > 0 && a[0] == b[0] {
		from("a", modelWays(a[1:], b[1:]))
	}
	if len(a) > 0 && len(b) > 0 && a[0] != b[0] {
		from("b", modelWays(a[1:], b[1:]))
	}
	if len(a) > 0 {
		from("c", modelWays(a[1:], b))
	}
	if len(b) > 0 {
		from("d", modelWays(a, b[1:]))
	}
	return all
}

// modelAlign returns the edits of the first way with the fewest ones.
func modelAlign(a, b []string) []api.Edit {
	all := modelWays(a, b)
	number := func(way string) int { return len(way) - strings.Count(way, "a") }
	best := all[0]
	for _, way := range all {
		if number(way) < number(best) || number(way) == number(best) && way < best {
			best = way
		}
	}
	var l []api.Edit
	at, to := 0, 0
	for _, step := range best {
		switch step {
		case 'b':
			l = append(l, change(at, a[at], b[to]))
		case 'c':
			l = append(l, drop(at, a[at]))
		case 'd':
			l = append(l, add(at, b[to]))
		}
		if step != 'd' {
			at++
		}
		if step != 'c' {
			to++
		}
	}
	return l
}

// modelDistance returns the fewest edits from one text to another one: row by row, from the beginning.
func modelDistance(a, b []string) int {
	row := make([]int, len(b)+1)
	for to := range row {
		row[to] = to
	}
	for at := range a {
		longer := []int{at + 1}
		for to := range b {
			changed := row[to]
			if a[at] != b[to] {
				changed++
			}
			longer = append(longer, min(changed, row[to+1]+1, longer[to]+1))
		}
		row = longer
	}
	return row[len(b)]
}

func modelForm(l []api.Edit) bool {
	for i, e := range l {
		isOld, isNew := modelWord.MatchString(e.Old), modelWord.MatchString(e.New)
		isKind := map[api.EditKind]bool{1: isOld && isNew && e.Old != e.New, 2: isOld && e.New == "", 3: e.Old == "" && isNew}[e.Kind]
		if !isKind || e.At < 0 || e.At > 20 {
			return false
		}
		if i > 0 && l[i-1].At >= e.At && !(l[i-1].At == e.At && l[i-1].Kind == 3) {
			return false
		}
	}
	return len(l) <= 40
}

// modelAt returns the words that edits add in front of a word, and the edit that changes or drops it, if there is one.
func modelAt(l []api.Edit, at int) (added []string, own []api.Edit) {
	for _, e := range l {
		if e.At == at && e.Kind == 3 {
			added = append(added, e.New)
		} else if e.At == at {
			own = append(own, e)
		}
	}
	return added, own
}

// modelPut returns what edits make of a word: nothing, the word itself, or another one.
func modelPut(word string, own []api.Edit) []string {
	if len(own) == 0 {
		return []string{word}
	}
	return words(own[0].New)
}

func modelApply(a []string, l []api.Edit) ([]string, int, api.Errno) {
	if !modelIsText(a) {
		return nil, 0, api.ErrArg
	}
	if !modelForm(l) {
		return nil, 0, api.ErrForm
	}
	for i, e := range l {
		if e.At > len(a) || e.Kind != 3 && e.At == len(a) {
			return nil, i, api.ErrRange
		}
		if e.Kind != 3 && a[e.At] != e.Old {
			return nil, i, api.ErrOther
		}
	}
	var b []string
	for at := range len(a) + 1 {
		added, own := modelAt(l, at)
		b = append(b, added...)
		if at < len(a) {
			b = append(b, modelPut(a[at], own)...)
		}
	}
	if len(b) > 20 {
		return nil, 0, api.ErrLong
	}
	return b, 0, api.OK
}

// modelInvert puts the words of edits into a text that is long enough, and looks where they are then.
func modelInvert(l []api.Edit) ([]api.Edit, api.Errno) {
	if !modelForm(l) {
		return nil, api.ErrForm
	}
	var undone []api.Edit
	size := 0
	for at := range 21 {
		isKept := 1
		for _, e := range l {
			if e.At != at {
				continue
			}
			switch e.Kind {
			case 1:
				undone = append(undone, change(size, e.New, e.Old))
			case 2:
				undone = append(undone, add(size, e.Old))
				isKept = 0
			case 3:
				undone = append(undone, drop(size, e.New))
				size++
			}
		}
		size += isKept
	}
	if slices.ContainsFunc(undone, func(e api.Edit) bool { return e.At > 20 }) {
		return nil, api.ErrLong
	}
	return undone, api.OK
}

// modelMerge merges the edits of two lists.
func modelMerge(base []string, l, m []api.Edit) ([]string, int, api.Errno) {
	var c []string
	for at := range len(base) + 1 {
		added, own := modelAt(l, at)
		also, other := modelAt(m, at)
		if len(added) > 0 && len(also) > 0 && !slices.Equal(added, also) || len(own) > 0 && len(other) > 0 && own[0] != other[0] {
			return nil, at, api.ErrClash
		}
		if len(added) == 0 {
			added = also
		}
		if len(own) == 0 {
			own = other
		}
		c = append(c, added...)
		if at < len(base) {
			c = append(c, modelPut(base[at], own)...)
		}
	}
	if len(c) > 20 {
		return nil, 0, api.ErrLong
	}
	return c, 0, api.OK
}

func modelChanges(parents, all []int) int {
	changes := 0
	for number, parent := range parents {
		if parent >= 0 && all[number] != all[parent] {
			changes++
		}
	}
	return changes
}

// modelRestore tries all lists, in their order, with so many readings for those that are lost.
func modelRestore(parents, readings []int, kinds int) (best []int, fewest int) {
	fewest = len(parents)
	all := slices.Clone(readings)
	var try func(number int)
	try = func(number int) {
		if number == len(all) {
			if n := modelChanges(parents, all); n < fewest {
				best, fewest = slices.Clone(all), n
			}
			return
		}
		if readings[number] >= 0 {
			try(number + 1)
			return
		}
		for reading := range kinds {
			all[number] = reading
			try(number + 1)
		}
	}
	try(0)
	return best, fewest
}

// modelCases returns all cases in their order.
func modelCases(features []int) [][]int {
	all := [][]int{nil}
	for _, choices := range features {
		var longer [][]int
		for _, c := range all {
			for choice := range choices {
				longer = append(longer, append(slices.Clone(c), choice))
			}
		}
		all = longer
	}
	return all
}

func modelApplies(r api.Rule, c []int) bool {
	for _, t := range r.When {
		if (t.Choices/(1<<c[t.Feature]))%2 == 0 {
			return false
		}
	}
	return true
}

// modelSpecial goes through all cases.
func modelSpecial(s api.School, i, j int) bool {
	isIn, isLess := true, false
	for _, c := range modelCases(s.Features) {
		first, second := modelApplies(s.Rules[i], c), modelApplies(s.Rules[j], c)
		isIn = isIn && (second || !first)
		isLess = isLess || second && !first
	}
	return isIn && isLess
}

// modelSpecials returns which rules are more special than which ones.
func modelSpecials(s api.School) [][]bool {
	var all [][]bool
	for i := range s.Rules {
		var row []bool
		for j := range s.Rules {
			row = append(row, modelSpecial(s, i, j))
		}
		all = append(all, row)
	}
	return all
}

// modelDecide decides by which rules are more special than which ones.
func modelDecide(s api.School, specials [][]bool, c []int, question int) (say int, by []int, e api.Errno) {
	answers := func(i int) bool { return s.Rules[i].Ask == question && modelApplies(s.Rules[i], c) }
	says := map[int]bool{}
	for i := range s.Rules {
		decides := answers(i)
		for j := range s.Rules {
			decides = decides && !(answers(j) && specials[j][i])
		}
		if decides {
			by = append(by, i)
			say = s.Rules[i].Say
			says[say] = true
		}
	}
	switch len(says) {
	case 0:
		return 0, nil, api.ErrNone
	case 1:
		return say, by, api.OK
	}
	return 0, nil, api.ErrClash
}
