package peg

import (
	"strconv"
	"strings"

	"chiti/api"
)

// What a word behind the name of a step is: the number of a peg, a line or a circle, which one of two points, or a mark.
const (
	aPeg    = 'p'
	aLine   = 'l'
	aCircle = 'c'
	aSide   = 'n'
	aMark   = 'm'
)

// form is what steps of a kind are called, and what they use, word by word; numbers stand ahead of all else.
type form struct {
	name, uses string
}

// forms are those of the kinds of steps; there is no kind 0.
var forms = [...]form{
	{},
	{"line", "pp"},
	{"circle", "ppp"},
	{"cross", "ll"},
	{"cut", "lcn"},
	{"join", "ccn"},
	{"mark", "ppm"},
	{"gnomon", "pl"},
	{"along", "pppp"},
}

// kindOf returns the kind of steps with a name, and 0 if there is none.
func kindOf(name string) api.PegKind {
	for i, f := range forms {
		if f.name == name {
			return api.PegKind(i)
		}
	}
	return 0
}

func numbersOf(s api.PegStep) [4]int { return [4]int{s.A, s.B, s.C, s.D} }

// isStep reports whether a step has the form of its kind; its numbers may be any ones.
func isStep(s api.PegStep) bool {
	if !within(int(s.Kind), 1, len(forms)-1) {
		return false
	}
	uses := forms[s.Kind].uses
	named := func(use rune) bool { return strings.ContainsRune(uses, use) }
	isSide, isMark := s.N == 0, s.Num == 0 && s.Den == 0
	if named(aSide) {
		isSide = within(s.N, 0, 1)
	}
	if named(aMark) {
		isMark = within(s.Num, -api.MaxCoef, api.MaxCoef) && within(s.Den, 1, api.MaxDen)
	}
	numbers := numbersOf(s)
	isZero := func(n int) bool { return n == 0 }
	count := len(strings.TrimRight(uses, string([]rune{aSide, aMark})))
	return isSide && isMark && every(isZero, numbers[count:]...)
}

// canBeWritten reports whether a step has a text.
func canBeWritten(s api.PegStep) bool {
	numbers := numbersOf(s)
	isShort := func(n int) bool { return within(n, 0, 999) }
	return isStep(s) && every(isShort, numbers[:]...)
}

// text returns the line of a step.
func text(s api.PegStep) string {
	f := forms[s.Kind]
	numbers := numbersOf(s)
	words := []string{f.name}
	for i, use := range f.uses {
		word := ""
		switch use {
		case aSide:
			word = strconv.Itoa(s.N)
		case aMark:
			word = strconv.Itoa(s.Num) + "/" + strconv.Itoa(s.Den)
		default:
			word = strconv.Itoa(numbers[i])
		}
		words = append(words, word)
	}
	return strings.Join(words, " ") + "\n"
}

// read returns the step of a line, and some step, valid or not, of what is no line of one.
func read(line string) api.PegStep {
	words := strings.Split(line, " ")
	s := api.PegStep{Kind: kindOf(words[0])}
	numbers := [4]*int{&s.A, &s.B, &s.C, &s.D}
	for i, use := range forms[s.Kind].uses {
		if i+1 == len(words) {
			break
		}
		word := words[i+1]
		switch use {
		case aSide:
			s.N = integer(word)
		case aMark:
			num, den, _ := strings.Cut(word, "/")
			s.Num, s.Den = integer(num), integer(den)
		default:
			*numbers[i] = integer(word)
		}
	}
	return s
}

// integer returns the integer of a word, and -1 if it has none.
func integer(word string) int {
	n, err := strconv.Atoi(word)
	if err != nil {
		return -1
	}
	return n
}
