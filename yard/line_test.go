package yard_test

import (
	"fmt"
	"slices"
	"strings"
	"testing"

	"chiti/api"
	"chiti/yard"
)

// forms are the commands with the sorts of their words, as the chapter tells them.
func forms() []string {
	return []string{
		"construct NAME NUMBER NUMBER NUMBER NUMBER", "step NAME TEXT", "peg NAME INT", "corners NAME LIST", "holds NAME WORD LIST",
		"old WORD", "chain WORD INT INT", "off NUMBER INT INT", "circle NUMBER NUMBER NUMBER INT",
		"ground NAME", "part NAME TEXT", "print NAME", "measure NAME", "size NAME NUMBER NUMBER INT",
		"lay NAME NAMES LIST", "tilings NAME NAMES LIST", "layers NAME NAMES LIST INT",
		"wares LIST INT", "mould INT INT", "dry INT INT INT", "laid INT INT", "broke INT INT", "replace INT INT",
		"fire LIST LIST", "draw LIST", "count INT", "use NAME NAMES LIST LIST", "need INT LIST LIST",
		"rite NAME INT INT", "act NAME NAME LIST LIST INT INT INT WORD", "begin NAME", "do NAME INT NAME", "perform NAME INT NAME",
		"open NAME INT", "repair NAME INT",
		"scan TEXT", "gifts INT LIST", "borrow INT LIST LIST", "moon INT INT INT", "falls INT",
		"school NAME LIST INT", "rule NAME INT INT LIST LIST", "decide NAME LIST INT", "differ NAME NAME INT",
	}
}

// good returns words of a sort. Those for WORD and TEXT are what commands ask for that look at them in a new yard.
func good(sort string) []string {
	return map[string][]string{
		"NAME":   {"a", "z", "name", "abcdefghijkl"},
		"NAMES":  {"a", "a,z", "square,oblong,square", "abcdefghijkl,a,abcdefghijkl"},
		"INT":    {"0", "1", "-1", "9", "10", "-105", "999999999", "-999999999"},
		"LIST":   {"-", "0", "-1", "1,0", "0,-5,12,0", "999999999,-999999999"},
		"NUMBER": {"0", "1", "-1/2", "r2", "-r2+3r3", "(1+r2)/3", "100000"},
		"WORD":   {"1+1/3", "0", "12-1/2*5+1/9"},
		"TEXT":   {"a", "a a", "agnim Ile purohitam"},
	}[sort]
}

// bad returns words that are not of a sort; none are words for all sorts.
func bad(sort string) []string {
	integers := []string{
		"--1", "+1", "01", "-01", "-0", "00", "1000000000", "-1000000000", "9223372036854775808", "-9223372036854775808", "99999999999999999999",
		"1.0", "1_0", "0x1", "1e3", "a", "1-", "\u0661", "1\n", "\t1", "1/2", "r2",
	}
	return map[string][]string{
		"NAME":   {"A", "aB", "a1", "1", "-", "a-", "a,b", ",", "abcdefghijklm", "\u00e4", "a\xff", "a\n", "{", "`", "a{", "`a"},
		"NAMES":  {"A", "a,B", "-", ",", "a,", ",a", "a,,b", "abcdefghijklm", "a,abcdefghijklm", "a,1", "a;b", "a,-", "\u00e4"},
		"INT":    append(integers, "-", "1,2", "--"),
		"LIST":   append(integers, "--", ",", "1,", ",1", "1,,2", "-,1", "1,-", "1,01", "1,+1", "1;2", "1,1000000000", "-1000000000,1", "1,a", "1,1.5"),
		"NUMBER": {"-", "2/4", "r4", "+1", "1r2", "01", "a", "1,2", "100001", "1/100001", "r1001", "1/0", "1.5", strings.Repeat("1", 65), strings.Repeat("1", 64)},
	}[sort]
}

// lineWith returns a line of a form with the word number i of each sort, or the last one.
func lineWith(form string, i int) []string {
	words := strings.Fields(form)
	for at, sort := range words {
		if at > 0 {
			all := good(sort)
			words[at] = all[min(i, len(all)-1)]
		}
	}
	return words
}

// isForm reports whether a line has the error ErrForm in a new yard.
func isForm(t *testing.T, words []string) bool {
	t.Helper()
	text, e := yard.New().Line(strings.Join(words, " "))
	if e != api.OK && text != "" {
		t.Error("an answer with an error", words, text, e)
	}
	return e == api.ErrForm
}

// P12.1: words of the right sorts are read.
func TestGoodWords(t *testing.T) {
	for _, form := range forms() {
		for i := range 9 {
			if words := lineWith(form, i); isForm(t, words) {
				t.Error(words)
			}
		}
	}
}

// P12.1: ErrForm if a word is not of the sort of its place.
func TestBadWords(t *testing.T) {
	for _, form := range forms() {
		for at, sort := range strings.Fields(form) {
			for _, word := range bad(sort) {
				words := lineWith(form, 1)
				words[at] = word
				if !isForm(t, words) {
					t.Errorf("%q", words)
				}
			}
		}
	}
}

// P12.1: ErrForm if there are too few or too many words, or no single spaces between them.
func TestHowManyWords(t *testing.T) {
	for _, form := range forms() {
		words := lineWith(form, 0)
		hasText := strings.HasSuffix(form, "TEXT")
		for at := range words {
			if fewer := slices.Delete(slices.Clone(words), at, at+1); !isForm(t, fewer) {
				t.Error(fewer)
			}
			for _, word := range []string{words[at], "a", "1", "-"} {
				if more := slices.Insert(slices.Clone(words), at+1, word); !hasText && !isForm(t, more) {
					t.Error(more)
				}
			}
			for _, spaced := range []string{" " + words[at], words[at] + " "} {
				apart := slices.Clone(words)
				apart[at] = spaced
				if !isForm(t, apart) {
					t.Errorf("%q", apart)
				}
			}
		}
		for at := range words {
			if joined := append(slices.Clone(words[:at]), strings.Join(words[at:], "\t")); at+1 < len(words) && !isForm(t, joined) && !hasText {
				t.Errorf("%q", joined)
			}
		}
		if !isForm(t, words[:1]) || !isForm(t, []string{words[0], ""}) {
			t.Error(words[0])
		}
	}
}

// P12.1: ErrForm unless the first word is a command.
func TestCommands(t *testing.T) {
	for _, line := range []string{
		"", " ", "  ", "\n", "x", "yard", "Ground a", "GROUND a", "grounds a", "groun a", "newmoon 1 1 0", "new moon 1 1 0", "task a", "ask a", "serve a",
		"write a", "keep a", "fall 1", "line a", "lay", "ground\ta", "ground,a", "construct\n", "\x00", "\xff\xff", "n", "nxxxx", "ground", " ground a", "ground a ",
	} {
		if text, e := yard.New().Line(line); text != "" || e != api.ErrForm {
			t.Errorf("%q %q %d", line, text, e)
		}
	}
}

// P12.1: a text is the rest of the line, with words of any bytes but spaces.
func TestTexts(t *testing.T) {
	y := play(t, `
		construct a 0 0 1 0
		ground a
	`)
	tell(t, y, `
		scan a a a a a a a a a a a a a a a = lllllllllllllll 15
		scan a	a = ErrForm
		scan tkt = ErrSound
		scan 1 - r2 , = ErrForm
		step a line 0 1 = 2
		step a along 0 1 0 1 = 3
		step a line  0 2 = ErrForm
		part a add 0 0 1 1 = 4
		part a add 0  0 1 1 = ErrForm
	`)
	for _, line := range []string{
		"step a line 0 2\nline 2 1", "step a line 0 2\n", "step a \nline 0 2", "step a \n", "step a line 0 2\r", "step a line 0",
		"part a add 1 1 1 1\nadd 2 2 1 1", "part a add 1 1 1 1\n", "part a \nadd 1 1 1 1", "part a \n", "part a add 1 1 1",
	} {
		if got := lineOf(y, line); got != answer("ErrForm") {
			t.Errorf("%q %v", line, got)
		}
	}
	tell(t, y, `
		step a cross 0 0 = ErrNone
		step a mark 0 1 1/2 = 4
		part a add 1 1 1 1 = 8
	`)
}

// P12.1: ErrLong if a line has more than 1000 bytes, whatever they are.
func TestLongLines(t *testing.T) {
	for _, c := range []struct {
		line string
		want string
	}{
		{"x" + strings.Repeat(" ", 999), "ErrForm"},
		{"x" + strings.Repeat(" ", 1000), "ErrLong"},
		{strings.Repeat("x", 1000), "ErrForm"},
		{strings.Repeat("x", 1001), "ErrLong"},
		{strings.Repeat("\u00e4", 500), "ErrForm"},
		{strings.Repeat("\u00e4", 500) + "x", "ErrLong"},
		{strings.Repeat("\xff", 1001), "ErrLong"},
		{"gifts 1 " + strings.Repeat("1,", 495) + "12", "ErrLong"},
		{"gifts 1 " + strings.Repeat("1,", 9) + "1", "1,0,0,0,0,0,0,0,0,0"},
		{"draw " + strings.Repeat("1,", 497) + "1", "ErrState"},
		{"draw " + strings.Repeat("1,", 497) + "12", "ErrLong"},
		{"draw " + strings.Repeat("1,", 497) + "x", "ErrForm"},
		{"tilings a " + strings.Repeat("a,", 493) + "a 1", "ErrNone"},
		{"tilings a " + strings.Repeat("a,", 493) + "ab 1", "ErrNone"},
		{"tilings a " + strings.Repeat("a,", 493) + "abc 1", "ErrLong"},
		{strings.Repeat("construct ", 1<<17), "ErrLong"},
	} {
		if got := lineOf(yard.New(), c.line); got != answer(c.want) {
			t.Error(len(c.line), c.line[:9], got, c.want)
		}
	}
}

// P12.1, R3: a nil yard has ErrNil ahead of all else.
func TestNilYard(t *testing.T) {
	var y *yard.Yard
	for _, line := range []string{"", "ground a", "x", strings.Repeat("x", 1001), "old 1"} {
		if text, e := y.Line(line); text != "" || e != api.ErrNil {
			t.Error(line, text, e)
		}
	}
}

// P12.1: there is nothing in a new yard, and what is done in one is not seen in another one.
func TestNew(t *testing.T) {
	one, two := yard.New(), yard.New()
	script := `
		construct a 0 0 1 0 = 2
		ground a = 0
		wares 1 1 = ok
		rite a 1 1 = 0
		moon 1 1 0 = ok
		school a 1 1 = 0
	`
	for _, y := range []*yard.Yard{one, two, new(yard.Yard)} {
		tell(t, y, `
			peg a 0 = ErrNone
			print a = ErrNone
			count 0 = ErrState
			open a 0 = ErrNone
			falls 0 = ErrState
			decide a 0 0 = ErrNone
		`, script)
	}
}

// P12.1: up to 20 things of each sort have names, of each sort by itself; the errors of names come first.
func TestThings(t *testing.T) {
	y := yard.New()
	letters := "abcdefghijklmnopqrst"
	for _, c := range []struct{ first, rest, text string }{
		{"construct", "0 0 1 0", "2"}, {"ground", "", "0"}, {"rite", "1 1", "0"}, {"school", "1 1", "0"},
	} {
		line := func(name string) string { return strings.TrimSpace(c.first + " " + name + " " + c.rest) }
		for i, letter := range letters {
			name := string(letter)
			if got := ask(t, y, line(name)); got != c.text {
				t.Error(line(name), got)
			}
			for _, old := range letters[:i+1] {
				tell(t, y, line(string(old))+" = ErrTwice")
			}
		}
		for _, name := range []string{"u", "aa", "abcdefghijkl"} {
			tell(t, y, line(name)+" = ErrFull")
		}
	}
	tell(t, y, `
		construct a 0 0 0 0 = ErrTwice
		construct u 0 0 0 0 = ErrFull
		school a 0 0 = ErrTwice
		school u 0 0 = ErrFull
		rite u 99 99 = ErrFull
		step u line 0 1 = ErrNone
		part u add 0 0 1 1 = ErrNone
		act u a - - -1 0 0 must = ErrNone
		rule u 0 0 - - = ErrNone
		step t line 0 1 = 2
		part t add 0 0 1 1 = 4
		act t a - - -1 0 0 must = 1
		rule t 0 0 - - = 1
	`)
}

// P12.1, R2: what has an error takes no name, and no room.
func TestRefusedThings(t *testing.T) {
	y := yard.New()
	for i := range 30 {
		name := strings.Repeat("a", i%12+1)
		tell(t, y, fmt.Sprintf("construct %s 1 2 1 2 = ErrTwice", name), fmt.Sprintf("school %s 9 1 = ErrArg", name), fmt.Sprintf("peg %s 0 = ErrNone", name), fmt.Sprintf("decide %s 0 0 = ErrNone", name))
	}
	tell(t, y, "construct a 1 2 1 3 = 2", "school a 2 1 = 0")
}

// P12.1: Play carries out lines in a new yard, also behind errors.
func TestPlay(t *testing.T) {
	lines := []string{"ground a", "part a add 0 0 1 1", "", "part a add 0 0 1 1", "print a", "ground a", "moon 1 1 0", "falls 3"}
	told := slices.Clone(lines)
	want := []api.YardAnswer{{Text: "0"}, {Text: "4"}, {Err: api.ErrForm}, {Err: api.ErrTwice}, {Text: "f"}, {Err: api.ErrTwice}, {Text: "ok"}, {Text: "3 once"}}
	for range 2 {
		got := yard.Play(lines)
		if !slices.Equal(got, want) || !slices.Equal(lines, told) {
			t.Error(got, lines)
		}
		clear(got)
	}
	for _, none := range [][]string{nil, {}} {
		if got := yard.Play(none); len(got) != 0 {
			t.Error(got)
		}
	}
	if got := yard.Play(make([]string, 3)); !slices.Equal(got, []api.YardAnswer{{Err: api.ErrForm}, {Err: api.ErrForm}, {Err: api.ErrForm}}) {
		t.Error(got)
	}
}
