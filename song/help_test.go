package song_test

import (
	"fmt"
	"math"
	"strings"
	"testing"

	"chiti/api"
	"chiti/song"
)

// letters are all that a line can have, without the space.
const letters = "aiuAIUeokgcjtdnpbmyrlvshMH"

func told(x any) string { return fmt.Sprintf("%+v", x) }

// same reports whether two results are told in the same way; a nil list and an empty one are.
func same(x, y any) bool { return told(x) == told(y) }

func lineOf(pattern string, units int) api.MetreLine {
	return api.MetreLine{Pattern: pattern, Units: units}
}

// metre returns a metre by its patterns, with any units.
func metre(patterns ...string) api.Metre {
	m := api.Metre{Name: "m"}
	for _, p := range patterns {
		m.Lines = append(m.Lines, lineOf(p, 0))
	}
	return m
}

// portions returns portions from numerators and denominators.
func portions(l ...int) []api.Portion {
	var all []api.Portion
	for i := 0; i < len(l); i += 2 {
		all = append(all, api.Portion{Num: l[i], Den: l[i+1]})
	}
	return all
}

func moon(length, per, phase int) api.Moon { return api.Moon{Len: length, Per: per, Phase: phase} }

// pseudo returns a function that yields integers from 0 to below n, the same ones in every run.
func pseudo() func(n int) int {
	state := uint64(88172645463325252)
	return func(n int) int {
		state ^= state << 13
		state ^= state >> 7
		state ^= state << 17
		return int(state % uint64(n))
	}
}

func extremes() []int {
	return []int{
		math.MinInt, math.MinInt + 1, -1 << 62, -1 << 32, -2, -1, 0, 1, 2, 3, 8, 9, 14, 15, 16, 20, 59, 60, 61, 119, 120, 121, 1000, 1001,
		99999, 100000, 100001, 200000, 999999, 1000000, 1000001, 1e9 - 1, 1e9, 1e9 + 1, 1<<32 + 1, 1 << 60, 1 << 61, 1 << 62, 1<<62 + 1, 1<<62 + 50, math.MaxInt - 1, math.MaxInt,
	}
}

// someText returns letters and spaces, mostly in an order that makes a valid line.
func someText(next func(n int) int, most int) string {
	var b strings.Builder
	for size := 1 + next(most); b.Len() < size; {
		for range []int{0, 1, 1, 2, 3}[next(5)] {
			b.WriteByte("kgcjtdnpbmyrlvsh"[next(16)])
		}
		b.WriteByte("aiuaiuAIUeo"[next(11)])
		b.WriteString([]string{"", "", "", "M", "H", " ", " ", "M ", "k", "st", "t "}[next(11)])
	}
	return strings.TrimSpace(b.String())
}

// someLine returns a valid line.
func someLine(next func(n int) int, most int) string {
	for {
		if s := someText(next, most); modelCheck(s) == api.OK {
			return s
		}
	}
}

// someMetreLine returns a valid line of a metre; often some line like its weights fills it.
func someMetreLine(next func(n int) int, weights string) api.MetreLine {
	p := []byte(weights)
	for i := range p {
		switch next(12) {
		case 0:
			p[i] = "lg"[next(2)]
		case 1, 2, 3, 4, 5:
			p[i] = 'x'
		}
	}
	l := lineOf(string(p), 0)
	if next(2) == 0 {
		l.Units = min(120, max(0, modelUnits(weights)+[]int{0, 0, 0, 1, -1}[next(5)]))
	}
	return l
}

// someWeights returns weights of so many syllables.
func someWeights(next func(n int) int, count int) string {
	var b strings.Builder
	for range count {
		b.WriteByte("lg"[next(2)])
	}
	return b.String()
}

// someMoon returns a valid moon.
func someMoon(next func(n int) int) api.Moon {
	per := 1 + next([]int{4, 12, 60, 1000, api.MaxMoon}[next(5)])
	least := (per + 1) / 2
	length := least + next(2*per-least+1)
	switch next(6) {
	case 0:
		length = per
	case 1:
		length = least
	case 2:
		length = 2 * per
	}
	return moon(length, per, next(per))
}

// scan tests that a line is valid, and returns its weights.
func scan(t *testing.T, line string) string {
	t.Helper()
	weights, e := song.Scan(line)
	if e != api.OK {
		t.Error(line, e)
	}
	return weights
}

// count tests that a line of a metre is valid, and returns in how many ways it can be filled.
func count(t *testing.T, l api.MetreLine) int {
	t.Helper()
	n, e := song.Count(l)
	if e != api.OK {
		t.Error(l, e)
	}
	return n
}
