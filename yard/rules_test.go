package yard_test

import (
	"strings"
	"testing"

	"chiti/api"
	"chiti/yard"
)

// wild returns a line of some words, or of some bytes.
func wild(next func(n int) int) string {
	var words []string
	for range next(10) {
		form := strings.Fields(forms()[next(len(forms()))])
		sort := form[next(len(form))]
		words = append(words, oneOf(next, append(append(good(sort), bad(sort)...), form[0], "", "line 0 1", "add 0 0 1 1")...))
	}
	line := []byte(strings.Join(words, oneOf(next, " ", " ", " ", "  ", ",", "")))
	for range next(3) {
		if len(line) > 0 {
			line[next(len(line))] = byte(next(256))
		}
	}
	return strings.Repeat(string(line), []int{1, 1, 1, 2, 200}[next(5)])
}

// P1: no line makes a yard panic, and with an error there is no answer; a line with a good form may have any.
func TestWild(t *testing.T) {
	next := pseudo()
	for lines := range sessions {
		y := yard.New()
		for _, line := range lines {
			for _, told := range []string{wild(next), line} {
				if text, e := y.Line(told); e != api.OK && text != "" || e == api.OK && text == "" || e < api.OK {
					t.Errorf("%q %q %d", told, text, e)
				}
			}
		}
	}
}

// P1: no command panics in a yard in which all is there, whatever words of the right sorts it has.
func TestAnyWords(t *testing.T) {
	next := pseudo()
	seen := map[string]int{}
	for range 300 {
		y := yard.New()
		for _, opening := range openings() {
			for _, line := range opening {
				ask(t, y, line)
			}
		}
		for _, line := range []string{"construct a 0 0 1 0", "school a 2,3 1", "rule a 0 200 - -", "school z 2,3 1"} {
			ask(t, y, line)
		}
		for _, form := range forms() {
			words := strings.Fields(form)
			for i, sort := range words {
				if i > 0 {
					words[i] = oneOf(next, good(sort)...)
				}
			}
			if words[len(words)-1] == "a" && strings.HasSuffix(form, "TEXT") {
				words[len(words)-1] = oneOf(next, "line 0 1", "add 4 4 1 1", "mirror 30", "mark 0 1 -9/9")
			}
			text, e := y.Line(strings.Join(words, " "))
			if e != api.OK && text != "" || e == api.OK && text == "" {
				t.Error(words, text, e)
			}
			if e == api.OK {
				seen[words[0]]++
			}
		}
	}
	if len(seen) < 25 {
		t.Error("only so many commands had an answer:", seen)
	}
}
