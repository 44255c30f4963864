package yard_test

import (
	"slices"
	"strings"
	"testing"

	"chiti/api"
	"chiti/yard"
)

// errorsByName returns the errors that scripts name.
func errorsByName() map[string]api.Errno {
	return map[string]api.Errno{
		"ErrArg": api.ErrArg, "ErrRange": api.ErrRange, "ErrForm": api.ErrForm, "ErrLong": api.ErrLong, "ErrTwice": api.ErrTwice,
		"ErrNone": api.ErrNone, "ErrFull": api.ErrFull, "ErrState": api.ErrState, "ErrOver": api.ErrOver, "ErrSurd": api.ErrSurd,
		"ErrSound": api.ErrSound, "ErrClash": api.ErrClash,
	}
}

// answer returns the answer that a script names.
func answer(text string) api.YardAnswer {
	if e, isError := errorsByName()[text]; isError {
		return api.YardAnswer{Err: e}
	}
	return api.YardAnswer{Text: text}
}

// lineOf carries out a line.
func lineOf(y *yard.Yard, line string) api.YardAnswer {
	text, e := y.Line(line)
	return api.YardAnswer{Text: text, Err: e}
}

// tell carries out the lines of scripts; behind each of them stands ` = ` and what the yard must answer, or its error.
func tell(t *testing.T, y *yard.Yard, scripts ...string) {
	t.Helper()
	for _, script := range scripts {
		for _, told := range strings.Split(strings.TrimSpace(script), "\n") {
			line, want, isTold := strings.Cut(strings.TrimSpace(told), " = ")
			if !isTold {
				t.Fatal("no answer:", told)
			}
			if got := lineOf(y, line); got != answer(want) {
				t.Errorf("%s: %q %d, not %s", line, got.Text, got.Err, want)
			}
		}
	}
}

// ask tests that a line has an answer, and returns it.
func ask(t *testing.T, y *yard.Yard, line string) string {
	t.Helper()
	text, e := y.Line(line)
	if e != api.OK {
		t.Error(line, e)
	}
	return text
}

// play carries out the lines of a script in a new yard, each of which has an answer, and returns the yard.
func play(t *testing.T, script string) *yard.Yard {
	t.Helper()
	y := yard.New()
	for line := range strings.Lines(script) {
		if line = strings.TrimSpace(line); line != "" {
			ask(t, y, line)
		}
	}
	return y
}

// pseudo returns a function that yields integers from 0 to below n, the same ones in every run.
func pseudo() func(n int) int {
	state := uint64(88172645463325252)
	return func(n int) int {
		state ^= state << 13
		state ^= state >> 7
		state ^= state << 17
		return int(state % uint64(n))
	}
}

// oneOf returns one of some texts.
func oneOf(next func(n int) int, texts ...string) string { return texts[next(len(texts))] }

// repeated returns so many texts, all of them the same, with something between them.
func repeated(n int, text, between string) string {
	return strings.Join(slices.Repeat([]string{text}, n), between)
}
