package song_test

import (
	"slices"
	"strings"
	"testing"

	"chiti/api"
	"chiti/song"
)

// outcome is what a call returned: everything but the error, as text, and the same for zero values.
type outcome struct {
	results, zero string
	e             api.Errno
}

func outcomeOf[T any](x T, e api.Errno) outcome {
	var zero T
	return outcome{told(x), told(zero), e}
}

func outcomeOfTwo[T, U any](x T, y U, e api.Errno) outcome {
	var zeroX T
	var zeroY U
	return outcome{told([]any{x, y}), told([]any{zeroX, zeroY}), e}
}

// arguments are those of all functions.
type arguments struct {
	line    string
	lines   []string
	m       api.Metre
	metres  []api.Metre
	l       api.MetreLine
	way     string
	n, to   int
	weights []int
	parts   []api.Portion
	moon    api.Moon
	dark    bool
}

// outcomes calls all functions with some arguments.
func outcomes(a arguments) map[string]outcome {
	return map[string]outcome{
		"Check":      outcomeOf(0, song.Check(a.line)),
		"Split":      outcomeOf(song.Split(a.line)),
		"Scan":       outcomeOf(song.Scan(a.line)),
		"Units":      outcomeOfTwo(song.Units(a.line)),
		"CheckMetre": outcomeOf(0, song.CheckMetre(a.m)),
		"Fits":       outcomeOfTwo(song.Fits(a.m, a.lines)),
		"Which":      outcomeOf(song.Which(a.metres, a.lines)),
		"Count":      outcomeOf(song.Count(a.l)),
		"Nth":        outcomeOf(song.Nth(a.l, a.n)),
		"Rank":       outcomeOf(song.Rank(a.l, a.way)),
		"Gifts":      outcomeOf(song.Gifts(a.n, a.weights)),
		"Whole":      outcomeOf(song.Whole(a.parts)),
		"Borrow":     outcomeOfTwo(song.Borrow(a.n, a.parts)),
		"CheckMoon":  outcomeOf(0, song.CheckMoon(a.moon)),
		"At":         outcomeOfTwo(song.At(a.moon, a.n)),
		"Falls":      outcomeOfTwo(song.Falls(a.moon, a.n)),
		"Next":       outcomeOf(song.Next(a.moon, a.n, a.dark, a.to)),
		"Odd":        outcomeOfTwo(song.Odd(a.moon, a.n, a.to)),
	}
}

// someArguments returns arguments of which most are valid.
func someArguments(next func(n int) int) arguments {
	line := someLine(next, 40)
	weights := modelWeights(line)
	a := arguments{
		line: line, lines: []string{line}, l: someMetreLine(next, weights), way: weights, n: []int{next(20), 17, 34}[next(3)], to: 1 + next(30),
		weights: []int{next(9), next(9), 1}, parts: portions(1, 2, 1, 3, 1, 9), moon: someMoon(next), dark: next(2) == 0,
	}
	a.m = api.Metre{Name: "m", Lines: []api.MetreLine{a.l}}
	a.metres = []api.Metre{a.m, metre("x", "x"), metre(strings.Repeat("x", len(weights)))}
	return a
}

// spoil changes one of some arguments.
func spoil(next func(n int) int, a *arguments) {
	integer := func() int { return extremes()[next(len(extremes()))] }
	text := func() string {
		return []string{"", " ", "M", "é", "\xff", strings.Repeat("a", 301), "lgx", strings.Repeat("x", 61), "k"}[next(9)]
	}
	switch next(13) {
	case 0:
		a.line = text()
	case 1:
		a.lines = append(a.lines, text())
	case 2:
		a.l.Pattern = text()
	case 3:
		a.l.Units = integer()
	case 4:
		a.m.Lines = append(a.m.Lines, lineOf(text(), integer()))
	case 5:
		a.metres = append(a.metres, api.Metre{Lines: []api.MetreLine{lineOf(text(), integer())}})
	case 6:
		a.way = text()
	case 7, 8:
		a.n = integer()
	case 9:
		a.to = integer()
	case 10:
		a.weights = append(a.weights, integer())
	case 11:
		a.parts = append(a.parts, api.Portion{Num: integer(), Den: integer()})
	case 12:
		*[]*int{&a.moon.Len, &a.moon.Per, &a.moon.Phase}[next(3)] = integer()
	}
}

// P1: no function panics, whatever it is given, and with an error every other result is zero; the same call has the same result.
func TestWild(t *testing.T) {
	next := pseudo()
	ok, bad := map[string]int{}, map[string]int{}
	for range 10000 {
		a := someArguments(next)
		for range next(4) {
			spoil(next, &a)
		}
		before := outcomes(a)
		for name, o := range outcomes(a) {
			if o != before[name] || o.e != api.OK && o.results != o.zero {
				t.Error(name, a, o, before[name])
			}
			if o.e == api.OK {
				ok[name]++
			} else {
				bad[name]++
			}
		}
	}
	for name := range outcomes(arguments{}) {
		if ok[name] < 1000 || bad[name] < 300 {
			t.Error("only so many calls of a sort:", name, ok[name], bad[name])
		}
	}
}

// P1: lists and texts of any size are refused.
func TestGreat(t *testing.T) {
	great := 1 << 18
	text := strings.Repeat("M", great)
	a := arguments{
		line: text, lines: make([]string, great), m: api.Metre{Lines: make([]api.MetreLine, great)}, metres: make([]api.Metre, great), l: lineOf(text, 0), way: text,
		weights: make([]int, great), parts: make([]api.Portion, great),
	}
	wants := map[string]api.Errno{
		"Check": api.ErrLong, "Split": api.ErrLong, "Scan": api.ErrLong, "Units": api.ErrLong, "CheckMetre": api.ErrArg, "Fits": api.ErrArg, "Which": api.ErrLong,
		"Count": api.ErrArg, "Nth": api.ErrArg, "Rank": api.ErrArg, "Gifts": api.ErrLong, "Whole": api.ErrLong, "Borrow": api.ErrLong,
		"CheckMoon": api.ErrArg, "At": api.ErrArg, "Falls": api.ErrArg, "Next": api.ErrArg, "Odd": api.ErrArg,
	}
	for name, o := range outcomes(a) {
		if o.e != wants[name] || o.results != o.zero {
			t.Error(name, o)
		}
	}
}

// R3: a nil list and an empty one are the same.
func TestNilAndEmpty(t *testing.T) {
	next := pseudo()
	for _, n := range []int{0, 1, -1} {
		a := someArguments(next)
		a.n = n
		a.lines, a.m.Lines, a.metres, a.weights, a.parts = nil, nil, nil, nil, nil
		first := outcomes(a)
		b := a
		b.lines, b.m.Lines, b.metres, b.weights, b.parts = []string{}, []api.MetreLine{}, []api.Metre{}, []int{}, []api.Portion{}
		for name, o := range outcomes(b) {
			if o != first[name] {
				t.Error(name, o, first[name])
			}
		}
		a.metres, b.metres = []api.Metre{{}}, []api.Metre{{Lines: []api.MetreLine{}}}
		a.m, b.m = metre("x"), metre("x")
		first = outcomes(a)
		for name, o := range outcomes(b) {
			if o != first[name] {
				t.Error(name, o, first[name])
			}
		}
	}
}

// roomy returns a copy of a list with room behind it, which an append would take.
func roomy[T any](l []T) []T { return append(make([]T, 0, 2*len(l)+9), l...) }

// scribble writes over a list, and over the spare room behind it.
func scribble[T any](with T, l []T) {
	for i := range l[:cap(l)] {
		l[:cap(l)][i] = with
	}
}

// isUnused reports whether the room behind a list is as it was made.
func isUnused[T any](l []T) bool {
	var zero T
	return !slices.ContainsFunc(l[len(l):cap(l)], func(x T) bool { return !same(x, zero) })
}

// integers are the lists of integers that functions return for some arguments.
func integers(a arguments) [][]int {
	which, _ := song.Which(a.metres, a.lines)
	gifts, _ := song.Gifts(a.n, a.weights)
	_, portions, _ := song.Borrow(a.n, a.parts)
	never, twice, _ := song.Odd(a.moon, 0, 100)
	return [][]int{which, gifts, portions, never, twice}
}

// R4: no call changes its arguments, and no result shares memory with them, or with another result.
func TestMemory(t *testing.T) {
	next := pseudo()
	for range 300 {
		a := someArguments(next)
		a.n = []int{17, 34, 0}[next(3)]
		if next(2) == 0 {
			a.moon = moon(50+next(70), 60, next(60))
		}
		was := told(a)
		a.lines, a.metres, a.weights, a.parts, a.m.Lines = roomy(a.lines), roomy(a.metres), roomy(a.weights), roomy(a.parts), roomy(a.m.Lines)
		for i := range a.metres {
			a.metres[i].Lines = roomy(a.metres[i].Lines)
		}
		outcomes(a)
		first := integers(a)
		before := told(first)
		isChanged := told(a) != was || !isUnused(a.lines) || !isUnused(a.metres) || !isUnused(a.weights) || !isUnused(a.parts) || !isUnused(a.m.Lines)
		for _, m := range a.metres {
			isChanged = isChanged || !isUnused(m.Lines)
		}
		if isChanged {
			t.Error("changed", was, a)
		}
		for _, l := range integers(a) {
			scribble(-9, l)
		}
		if told(first) != before || told(a) != was || told(integers(a)) != before {
			t.Error("shared with another call", was, a)
		}
		for i := range first {
			rest := told(first[i+1:])
			scribble(-9, first[i])
			if told(first[i+1:]) != rest {
				t.Error("shared with each other", was, i)
			}
		}
		second := integers(a)
		scribble("R", a.lines)
		scribble(-9, a.weights)
		scribble(api.Portion{}, a.parts)
		for _, m := range a.metres {
			scribble(api.MetreLine{}, m.Lines)
		}
		scribble(api.Metre{}, a.metres)
		if told(second) != before {
			t.Error("shared with an argument", was)
		}
	}
}

// R4: the syllables of a line are new in each call.
func TestMemoryOfSplit(t *testing.T) {
	line := "agnim Ile purohitam"
	first, _ := song.Split(line)
	before := told(first)
	second, _ := song.Split(line)
	scribble("R", second)
	if third, _ := song.Split(line); told(first) != before || told(third) != before {
		t.Error(first, third)
	}
}
