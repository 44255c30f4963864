package song

import (
	"slices"
	"strings"

	"chiti/api"
)

// The weights of syllables, and what a pattern asks if it lets a syllable have any.
const (
	light  = 'l'
	heavy  = 'g'
	either = 'x'
)

// nowhere is the number of a line, and of a syllable, if all are as they must be.
const nowhere = -1

// CheckMetre returns the error of a metre.
func CheckMetre(m api.Metre) api.Errno {
	if !isMetre(m) {
		return api.ErrArg
	}
	return api.OK
}

// Fits returns the first line that is not as a metre asks, and the syllable; -1 and -1 if all are.
func Fits(m api.Metre, lines []string) (line, syllable int, e api.Errno) {
	if !isMetre(m) {
		return 0, 0, api.ErrArg
	}
	scanned, e := scanAll(lines)
	if e != api.OK {
		return 0, 0, e
	}
	line, syllable = misfit(m, scanned)
	return line, syllable, api.OK
}

// Which returns the numbers of the metres that some lines have.
func Which(metres []api.Metre, lines []string) ([]int, api.Errno) {
	isBad := func(m api.Metre) bool { return !isMetre(m) }
	switch {
	case len(metres) > api.MaxMetres:
		return nil, api.ErrLong
	case slices.ContainsFunc(metres, isBad):
		return nil, api.ErrArg
	}
	scanned, e := scanAll(lines)
	if e != api.OK {
		return nil, e
	}
	var numbers []int
	for number, m := range metres {
		if line, _ := misfit(m, scanned); line == nowhere {
			numbers = append(numbers, number)
		}
	}
	return numbers, api.OK
}

func isMetre(m api.Metre) bool {
	isBad := func(l api.MetreLine) bool { return !isMetreLine(l) }
	return isWithin(len(m.Lines), 1, api.MaxLines) && !slices.ContainsFunc(m.Lines, isBad)
}

func isMetreLine(l api.MetreLine) bool {
	return isWithin(len(l.Pattern), 1, api.MaxFeet) &&
		isWithin(l.Units, 0, 2*api.MaxFeet) &&
		isSpelled(l.Pattern, string(light), string(heavy), string(either))
}

// scanAll returns the weights of each of some lines.
func scanAll(lines []string) ([]string, api.Errno) {
	if len(lines) > api.MaxLines {
		return nil, api.ErrLong
	}
	var scanned []string
	for _, line := range lines {
		weights, e := Scan(line)
		if e != api.OK {
			return nil, e
		}
		scanned = append(scanned, weights)
	}
	return scanned, api.OK
}

// misfit returns the first line that does not fill the one of a metre, and the syllable; nowhere if all do.
func misfit(m api.Metre, scanned []string) (line, syllable int) {
	both := min(len(m.Lines), len(scanned))
	for line := range both {
		if syllable := unlike(m.Lines[line], scanned[line]); syllable != nowhere {
			return line, syllable
		}
	}
	if len(m.Lines) != len(scanned) {
		return both, 0
	}
	return nowhere, nowhere
}

// unlike returns the first syllable that is not as a line of a metre asks; if all that have a place in it are, but they are too few, too many or too long together, how many have one; nowhere if the line is filled.
func unlike(l api.MetreLine, weights string) int {
	both := min(len(l.Pattern), len(weights))
	for syllable := range both {
		if !admits(l.Pattern[syllable], weights[syllable]) {
			return syllable
		}
	}
	if len(l.Pattern) != len(weights) || !hasUnits(l, unitsOf(weights)) {
		return both
	}
	return nowhere
}

// admits reports whether a syllable can have a weight where a pattern asks for one.
func admits(asked, weight byte) bool { return asked == either || asked == weight }

func hasUnits(l api.MetreLine, units int) bool { return l.Units == 0 || l.Units == units }

// unitsOf returns how many units syllables have together: a heavy one has two.
func unitsOf(weights string) int { return len(weights) + strings.Count(weights, string(heavy)) }

func isWithin(n, low, high int) bool { return low <= n && n <= high }
