package song_test

import (
	"slices"
	"strings"
	"testing"

	"chiti/api"
	"chiti/song"
)

// P10.1, P10.2: the examples of the chapter, and all that can stand about a vowel.
func TestSyllables(t *testing.T) {
	for _, c := range []struct{ line, syllables, weights string }{
		{"agnim Ile purohitam", "ag ni mI le pu ro hi tam", "glgglgll"},
		{"devaM naH", "de vaM naH", "ggg"},
		// A vowel alone.
		{"a", "a", "l"}, {"i", "i", "l"}, {"u", "u", "l"}, {"A", "A", "g"}, {"I", "I", "g"}, {"U", "U", "g"}, {"e", "e", "g"}, {"o", "o", "g"},
		{"aiuAIUeo", "a i u A I U e o", "lllggggg"}, {"a a", "a a", "ll"},
		// What stands ahead of the first one does not count.
		{"ka", "ka", "l"}, {"kta", "kta", "l"}, {"kstra", "kstra", "l"}, {"k t a", "kta", "l"},
		// What stands behind the last one.
		{"ak", "ak", "l"}, {"akt", "akt", "g"}, {"aktr", "aktr", "g"}, {"Ak", "Ak", "g"}, {"aM", "aM", "g"}, {"aH", "aH", "g"}, {"aMk", "aMk", "g"}, {"aHkt", "aHkt", "g"}, {"iM", "iM", "g"}, {"AH", "AH", "g"},
		// What stands between two.
		{"aka", "a ka", "ll"}, {"akta", "ak ta", "gl"}, {"aktra", "akt ra", "gl"}, {"aktsra", "akts ra", "gl"}, {"akka", "ak ka", "gl"}, {"aMa", "aM a", "gl"}, {"aMka", "aM ka", "gl"}, {"aHkta", "aHk ta", "gl"}, {"aMktra", "aMkt ra", "gl"}, {"Aka", "A ka", "gl"}, {"akA", "a kA", "lg"},
		{"Akta", "Ak ta", "gl"}, {"okti", "ok ti", "gl"},
		// Spaces do not part letters.
		{"ak a", "a ka", "ll"}, {"a ka", "a ka", "ll"}, {"ak ta", "ak ta", "gl"}, {"a kta", "ak ta", "gl"}, {"akt a", "ak ta", "gl"}, {"aM a", "aM a", "gl"}, {"aM ka", "aM ka", "gl"}, {"a k", "ak", "l"}, {"a k t", "akt", "g"}, {"a k t r a", "akt ra", "gl"},
		{"mama", "ma ma", "ll"}, {"amaMa", "a maM a", "lgl"},
		{strings.Repeat("a", 300), strings.TrimSpace(strings.Repeat("a ", 300)), strings.Repeat("l", 300)},
		{strings.Repeat("taH ", 75)[:299], strings.TrimSpace(strings.Repeat("taH ", 75)), strings.Repeat("g", 75)},
		{strings.Repeat("k", 299) + "a", strings.Repeat("k", 299) + "a", "l"},
	} {
		want := strings.Split(c.syllables, " ")
		l, e := song.Split(c.line)
		weights, f := song.Scan(c.line)
		n, units, g := song.Units(c.line)
		if !slices.Equal(l, want) || weights != c.weights || n != len(want) || units != modelUnits(c.weights) || e != api.OK || f != api.OK || g != api.OK {
			t.Error(c.line, l, weights, n, units, e, f, g)
		}
		if modelWeights(c.line) != c.weights || !slices.Equal(modelSyllables(c.line), want) {
			t.Error("the model differs:", c.line)
		}
	}
}

// lineError tests that all functions with a line have the same error, and returns it.
func lineError(t *testing.T, line string) api.Errno {
	t.Helper()
	e := song.Check(line)
	l, f := song.Split(line)
	weights, g := song.Scan(line)
	n, units, h := song.Units(line)
	if f != e || g != e || h != e {
		t.Errorf("%q %v %v %v %v", line, e, f, g, h)
	}
	if e != api.OK && (l != nil || weights != "" || n != 0 || units != 0) {
		t.Errorf("%q %v %v %v %v %v", line, l, weights, n, units, e)
	}
	return e
}

// P10.1: lines that are none, and which error comes first.
func TestLineErrors(t *testing.T) {
	for line, want := range map[string]api.Errno{
		"": api.ErrForm, " ": api.ErrForm, "  ": api.ErrForm, " a": api.ErrForm, "a ": api.ErrForm, "a  a": api.ErrForm, "a   a": api.ErrForm, "a a ": api.ErrForm, "a a a": api.OK,
		"aR": api.ErrForm, "a\ta": api.ErrForm, "a\n": api.ErrForm, "\x00": api.ErrForm, "a\xff": api.ErrForm, "\xff": api.ErrForm, "aé": api.ErrForm, "a\u00a0a": api.ErrForm, "a\ufffda": api.ErrForm, "a-a": api.ErrForm, "a1": api.ErrForm, "E": api.ErrForm, "K": api.ErrForm, "ā": api.ErrForm,
		"M": api.ErrSound, "H": api.ErrSound, "k": api.ErrSound, "k t": api.ErrSound, "kM": api.ErrSound, "Ma": api.ErrSound, "Ha": api.ErrSound, "akM": api.ErrSound, "a M": api.ErrSound, "aMM": api.ErrSound, "aMH": api.ErrSound, "aHH": api.ErrSound, "a Ha": api.ErrSound, "aM M": api.ErrSound, "akta M": api.ErrSound, "taM tkM": api.ErrSound, "aM Ha": api.ErrSound,
		"aM": api.OK, "eM": api.OK, "oH": api.OK, "UM": api.OK, "aMaM": api.OK, "aM aH": api.OK,
		// The error that is named first.
		"M ": api.ErrForm, " kM": api.ErrForm, "MR": api.ErrForm, "k  k": api.ErrForm, "MMé": api.ErrForm, "k ": api.ErrForm,
		strings.Repeat("a", 300): api.OK, strings.Repeat("a", 301): api.ErrLong, strings.Repeat(" ", 300): api.ErrForm, strings.Repeat(" ", 301): api.ErrLong, strings.Repeat("M", 300): api.ErrSound, strings.Repeat("M", 301): api.ErrLong, strings.Repeat("é", 151): api.ErrLong, strings.Repeat("é", 150): api.ErrForm, strings.Repeat("k", 300): api.ErrSound, "a" + strings.Repeat("k", 299): api.OK, "a " + strings.Repeat("k", 298): api.OK, "a" + strings.Repeat(" ", 299): api.ErrForm,
	} {
		if e := lineError(t, line); e != want || modelCheck(line) != want {
			t.Errorf("%q %v %v", line, e, want)
		}
	}
}

// P10.1: which bytes are letters.
func TestLetters(t *testing.T) {
	for b := range 256 {
		line := "a" + string([]byte{byte(b)}) + "a"
		if e := lineError(t, line); (e == api.OK) != strings.Contains(letters+" ", string([]byte{byte(b)})) || e != api.OK && e != api.ErrForm {
			t.Errorf("%q %v", line, e)
		}
	}
}

// likeModel tests what is done with a line against the model.
func likeModel(t *testing.T, line string) api.Errno {
	t.Helper()
	e := lineError(t, line)
	if want := modelCheck(line); e != want {
		t.Errorf("%q %v %v", line, e, want)
	}
	if e != api.OK {
		return e
	}
	l, _ := song.Split(line)
	weights, _ := song.Scan(line)
	n, units, _ := song.Units(line)
	want := modelWeights(line)
	if !slices.Equal(l, modelSyllables(line)) || weights != want || n != len(want) || units != modelUnits(want) {
		t.Errorf("%q %v %v %v %v", line, l, weights, n, units)
	}
	return e
}

// P10.1, P10.2: all short texts of some bytes, as in the model.
func TestShortLines(t *testing.T) {
	texts := []string{""}
	valid := 0
	for range 6 {
		var longer []string
		for _, s := range texts {
			if likeModel(t, s) == api.OK {
				valid++
			}
			for _, b := range []string{"a", "A", "k", "r", "M", " ", "R"} {
				longer = append(longer, s+b)
			}
		}
		texts = longer
	}
	if valid < 1000 {
		t.Error("only so many lines:", valid)
	}
}

// P10.1, P10.2: longer texts, as in the model.
func TestLinesAsModel(t *testing.T) {
	next := pseudo()
	found := map[api.Errno]int{}
	for range 5000 {
		s := someText(next, []int{8, 40, 340}[next(3)])
		if next(4) == 0 {
			at := next(len(s) + 1)
			s = s[:at] + []string{"M", "  ", "R", "H", " "}[next(5)] + s[at:]
		}
		found[likeModel(t, s)]++
	}
	if min(found[api.OK], found[api.ErrLong], found[api.ErrForm], found[api.ErrSound]) < 50 {
		t.Error("only so many of a sort:", found)
	}
}

// P10.13: no letter is lost, each syllable has just one vowel, and the units are the syllables and the heavy ones.
func TestNothingIsLost(t *testing.T) {
	next := pseudo()
	for range 3000 {
		line := someLine(next, 200)
		l, _ := song.Split(line)
		weights := scan(t, line)
		n, units, _ := song.Units(line)
		if strings.Join(l, "") != strings.ReplaceAll(line, " ", "") || len(l) != len(weights) || n != len(l) || units != n+strings.Count(weights, "g") || len(weights) != strings.Count(weights, "g")+strings.Count(weights, "l") {
			t.Error(line, l, weights, n, units)
		}
		for _, s := range l {
			if len(modelVowel.FindAllString(s, -1)) != 1 {
				t.Error(line, l, s)
			}
		}
	}
}
