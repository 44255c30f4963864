package surd

import (
	"iter"
	"strconv"
	"strings"

	"chiti/api"
)

// text returns the text of a valid number.
func text(x api.Number) string {
	if len(x.Terms) == 0 {
		return "0"
	}
	s := ""
	for i, t := range x.Terms {
		if i > 0 && t.Coef > 0 {
			s += "+"
		}
		s += termText(t)
	}
	if x.Den == 1 {
		return s
	}
	if len(x.Terms) > 1 {
		s = "(" + s + ")"
	}
	return s + "/" + strconv.Itoa(x.Den)
}

func termText(t api.Term) string {
	coef := strconv.Itoa(t.Coef)
	if t.Root == 1 {
		return coef
	}
	if t.Coef == 1 || t.Coef == -1 {
		coef = strings.TrimSuffix(coef, "1")
	}
	return coef + "r" + strconv.Itoa(t.Root)
}

// read returns the number of a text, and some number, valid or not, of what is no text.
func read(s string) api.Number {
	terms, below, divided := strings.Cut(s, "/")
	x := api.Number{Den: 1}
	if divided {
		x.Den, _ = readDigits(below)
		terms = strings.TrimSuffix(strings.TrimPrefix(terms, "("), ")")
	}
	for terms != "" {
		t, rest := readTerm(terms)
		if rest == terms {
			break
		}
		if t.Coef != 0 {
			x.Terms = append(x.Terms, t)
		}
		terms = rest
	}
	return x
}

// readTerm returns the term with which a text begins, and the rest.
func readTerm(s string) (t api.Term, rest string) {
	rest, minus := strings.CutPrefix(s, "-")
	rest = strings.TrimPrefix(rest, "+")
	t = api.Term{Coef: 1, Root: 1}
	if n, behind := readDigits(rest); behind != rest {
		t.Coef, rest = n, behind
	}
	if behind, ok := strings.CutPrefix(rest, "r"); ok {
		t.Root, rest = readDigits(behind)
	}
	if minus {
		t.Coef = -t.Coef
	}
	return t, rest
}

// readDigits returns the integer with which a text begins, and the rest; an integer above all limits is one of them.
func readDigits(s string) (n int, rest string) {
	const tooGreat = max(api.MaxCoef, api.MaxDen, api.MaxRoot) + 1
	rest = s
	for d := range digits(s) {
		n = min(10*n+d, tooGreat)
		rest = rest[1:]
	}
	return n, rest
}

// digits yields the decimal digits with which a text begins.
func digits(s string) iter.Seq[int] {
	return func(yield func(int) bool) {
		for i := 0; i < len(s) && '0' <= s[i] && s[i] <= '9'; i++ {
			if !yield(int(s[i] - '0')) {
				return
			}
		}
	}
}
