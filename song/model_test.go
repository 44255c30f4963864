package song_test

import (
	"math/big"
	"regexp"
	"slices"
	"strings"

	"chiti/api"
)

// The model follows the chapter word by word, by regular expressions, fractions of any size, and by trying all that there can be.

var (
	modelForm   = regexp.MustCompile(`^[aiuAIUeokgcjtdnpbmyrlvshMH]+( [aiuAIUeokgcjtdnpbmyrlvshMH]+)*$`)
	modelVowel  = regexp.MustCompile(`[aiuAIUeo]`)
	modelStray  = regexp.MustCompile(`(^|[^aiuAIUeo])[MH]`)
	modelBehind = regexp.MustCompile(`^[MH]?([kgcjtdnpbmyrlvsh]*)`)
)

func modelCheck(line string) api.Errno {
	switch {
	case len(line) > 300:
		return api.ErrLong
	case !modelForm.MatchString(line):
		return api.ErrForm
	case modelStray.MatchString(line) || !modelVowel.MatchString(line):
		return api.ErrSound
	}
	return api.OK
}

// modelSyllables returns the syllables of a valid line: to which vowel each letter belongs.
func modelSyllables(line string) []string {
	text := strings.ReplaceAll(line, " ", "")
	vowels := modelVowel.FindAllStringIndex(text, -1)
	l := make([]string, len(vowels))
	for i := range text {
		ahead := len(modelVowel.FindAllString(text[:i], -1))
		isLastAhead := i+1 < len(text) && modelVowel.MatchString(text[i+1:i+2])
		owner := ahead - 1
		if ahead == 0 || modelVowel.MatchString(text[i:i+1]) || isLastAhead && !strings.Contains("MH", text[i:i+1]) {
			owner = ahead
		}
		l[owner] += text[i : i+1]
	}
	return l
}

func modelWeights(line string) string {
	text := strings.ReplaceAll(line, " ", "")
	weights := ""
	for _, at := range modelVowel.FindAllStringIndex(text, -1) {
		isLong := strings.Contains("AIUeo", text[at[0]:at[1]])
		found := modelBehind.FindStringSubmatch(text[at[1]:])
		if isLong || len(found[0]) > len(found[1]) || len(found[1]) >= 2 {
			weights += "g"
		} else {
			weights += "l"
		}
	}
	return weights
}

func modelUnits(weights string) int {
	units := 0
	for _, w := range weights {
		units += map[rune]int{'l': 1, 'g': 2}[w]
	}
	return units
}

// modelMisfit returns the first syllable that is not as the pattern asks, and the number of those that have a place in it if all these are.
func modelMisfit(l api.MetreLine, weights string) int {
	for i := range weights {
		if i < len(l.Pattern) && l.Pattern[i] != 'x' && l.Pattern[i] != weights[i] {
			return i
		}
	}
	return min(len(weights), len(l.Pattern))
}

func modelFills(l api.MetreLine, weights string) bool {
	return len(weights) == len(l.Pattern) && modelMisfit(l, weights) == len(weights) && (l.Units == 0 || l.Units == modelUnits(weights))
}

func modelFits(m api.Metre, weights []string) (line, syllable int) {
	for i := range max(len(m.Lines), len(weights)) {
		if i >= len(m.Lines) || i >= len(weights) {
			return i, 0
		}
		if !modelFills(m.Lines[i], weights[i]) {
			return i, modelMisfit(m.Lines[i], weights[i])
		}
	}
	return -1, -1
}

// modelWays returns all ways to fill a line of a metre, in ascending order.
func modelWays(l api.MetreLine) []string {
	all := []string{""}
	for range l.Pattern {
		var longer []string
		for _, s := range all {
			longer = append(longer, s+"l", s+"g")
		}
		all = longer
	}
	all = slices.DeleteFunc(all, func(s string) bool { return !modelFills(l, s) })
	slices.Sort(all)
	return all
}

func ratio(num, den int) *big.Rat { return big.NewRat(int64(num), int64(den)) }

// modelFloor returns a fraction from 0 on, rounded down.
func modelFloor(x *big.Rat) int { return int(new(big.Int).Quo(x.Num(), x.Denom()).Int64()) }

func modelGifts(cows int, weights []int) []int {
	all := 0
	for _, w := range weights {
		all += w
	}
	left := cows
	gifts, lost := make([]int, len(weights)), make([]*big.Rat, len(weights))
	for i, w := range weights {
		part := new(big.Rat).Mul(ratio(cows, 1), ratio(w, all))
		gifts[i] = modelFloor(part)
		lost[i] = part.Sub(part, ratio(gifts[i], 1))
		left -= gifts[i]
	}
	for ; left > 0; left-- {
		best := 0
		for i := range lost {
			if lost[i].Cmp(lost[best]) > 0 {
				best = i
			}
		}
		gifts[best]++
		lost[best] = ratio(-1, 1)
	}
	return gifts
}

// modelPortions returns the portions of a herd, whether they are whole, and what is left.
func modelPortions(herd int, l []api.Portion) (gifts []int, areWhole bool, left int) {
	areWhole, left = true, herd
	for _, p := range l {
		part := new(big.Rat).Mul(ratio(herd, 1), ratio(p.Num, p.Den))
		areWhole = areWhole && part.IsInt()
		gifts = append(gifts, modelFloor(part))
		left -= modelFloor(part)
	}
	return gifts, areWhole, left
}

// modelWhole returns the least whole herd up to some number, 0 if there is none.
func modelWhole(l []api.Portion, most int) int {
	for herd := 1; herd <= most; herd++ {
		if _, areWhole, _ := modelPortions(herd, l); areWhole {
			return herd
		}
	}
	return 0
}

// modelBorrow returns how many cows must be borrowed, up to some number, and the gifts; -1 if it can not be done.
func modelBorrow(cows int, l []api.Portion, most int) (int, []int) {
	for b := range most + 1 {
		if gifts, areWhole, left := modelPortions(cows+b, l); areWhole && left == b {
			return b, gifts
		}
	}
	return -1, nil
}

// modelBegin returns when a lunar day begins.
func modelBegin(m api.Moon, k int) *big.Rat {
	x := new(big.Rat).Mul(ratio(k, 1), ratio(m.Len, 1))
	x.Add(x, ratio(m.Phase, 1))
	return x.Quo(x, ratio(m.Per, 1))
}

// modelCurrent reports whether a lunar day is current at the sunrise of a day.
func modelCurrent(m api.Moon, k, day int) bool {
	return modelBegin(m, k).Cmp(ratio(day, 1)) <= 0 && modelBegin(m, k+1).Cmp(ratio(day, 1)) > 0
}

func modelFalls(m api.Moon, k int) (int, api.LunarFall) {
	begin := modelFloor(modelBegin(m, k))
	var days []int
	for day := max(0, begin-2); day < begin+6; day++ {
		if modelCurrent(m, k, day) {
			days = append(days, day)
		}
	}
	switch len(days) {
	case 0:
		return begin, api.FallsNever
	case 1:
		return days[0], api.FallsOnce
	}
	return days[0], api.FallsTwice
}

func modelLunarDay(k int) api.LunarDay {
	return api.LunarDay{Month: k / 30, Dark: k%30 > 14, Number: 1 + k%30%15}
}

// modelNext returns the first day on which an act for such lunar days falls, and -1 if there is none.
func modelNext(m api.Moon, from int, dark bool, number int) int {
	// Those that begin some days too early need not be tried.
	for k := max(0, (from-100)*m.Per/m.Len); k <= 1000000; k++ {
		if d := modelLunarDay(k); d.Dark == dark && d.Number == number {
			if day, _ := modelFalls(m, k); day >= from {
				return day
			}
		}
	}
	return -1
}
