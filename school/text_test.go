package school_test

import (
	"slices"
	"strings"
	"testing"

	"chiti/api"
	"chiti/school"
)

// P11.1: the examples of the chapter, and which of several lists is meant.
func TestAlign(t *testing.T) {
	for _, c := range []struct {
		a, b string
		want []api.Edit
	}{
		{"", "", nil}, {"a", "a", nil}, {"a b c", "a b c", nil},
		{"one two three", "one four", edits(change(1, "two", "four"), drop(2, "three"))}, {"one four", "one two three", edits(change(1, "four", "two"), add(2, "three"))},
		{"lay the bricks", "lay the red bricks", edits(add(2, "red"))}, {"lay the bricks", "lay bricks", edits(drop(1, "the"))}, {"lay the bricks", "lay old bricks", edits(change(1, "the", "old"))},
		{"", "a", edits(add(0, "a"))}, {"a", "", edits(drop(0, "a"))}, {"a", "b", edits(change(0, "a", "b"))},
		{"", "b a", edits(add(0, "b"), add(0, "a"))}, {"b a", "", edits(drop(0, "b"), drop(1, "a"))},
		// Equal words are kept as early as it can be.
		{"a", "a a a", edits(add(1, "a"), add(1, "a"))}, {"a a a", "a", edits(drop(1, "a"), drop(2, "a"))}, {"a", "a b a", edits(add(1, "b"), add(1, "a"))}, {"a b a", "a", edits(drop(1, "b"), drop(2, "a"))},
		// They are changed rather than dropped, and dropped rather than added.
		{"a b", "b a", edits(change(0, "a", "b"), change(1, "b", "a"))}, {"a b", "c", edits(change(0, "a", "c"), drop(1, "b"))}, {"c", "a b", edits(change(0, "c", "a"), add(1, "b"))},
		{"a b c", "b c a", edits(drop(0, "a"), add(3, "a"))}, {"b c a", "a b c", edits(add(0, "a"), drop(2, "a"))}, {"a b c d", "c d a b", edits(change(0, "a", "c"), change(1, "b", "d"), change(2, "c", "a"), change(3, "d", "b"))},
		{"a x b", "b", edits(drop(0, "a"), drop(1, "x"))}, {"b", "a x b", edits(add(0, "a"), add(0, "x"))},
		// A change can not come first if this takes more edits.
		{"x a b", "a b", edits(drop(0, "x"))}, {"a b", "x a b", edits(add(0, "x"))}, {"a b c", "b d", edits(drop(0, "a"), change(2, "c", "d"))}, {"b d", "a b c", edits(add(0, "a"), change(1, "d", "c"))},
		{"ab", "a b", edits(change(0, "ab", "a"), add(1, "b"))}, {"a b", "ab", edits(change(0, "a", "ab"), drop(1, "b"))},
		{strings.Repeat("a ", 20), strings.Repeat("a ", 20), nil}, {strings.Repeat("a ", 20), strings.Repeat("a ", 19) + "b", edits(change(19, "a", "b"))}, {strings.Repeat("a ", 19), strings.Repeat("a ", 19) + "b", edits(add(19, "b"))}, {"b " + strings.Repeat("a ", 19), strings.Repeat("a ", 20), edits(change(0, "b", "a"))}, {"b " + strings.Repeat("a ", 19), strings.Repeat("a ", 19) + "b", edits(change(0, "b", "a"), change(19, "a", "b"))}, {"c b " + strings.Repeat("a ", 18), "b " + strings.Repeat("a ", 18) + "c", edits(drop(0, "c"), add(20, "c"))},
	} {
		a, b := words(c.a), words(c.b)
		l, e := school.Align(a, b)
		if !slices.Equal(l, c.want) || e != api.OK {
			t.Error(c.a, "-", c.b, l, e)
		}
		if len(a)+len(b) < 12 && !slices.Equal(modelAlign(a, b), c.want) {
			t.Error("the model differs:", c.a, "-", c.b)
		}
	}
}

// P11.1: all short texts of some words, as in the model.
func TestShortTexts(t *testing.T) {
	texts := [][]string{nil}
	for first := 0; len(texts) < 100; {
		last := len(texts)
		for _, text := range texts[first:last] {
			for _, word := range []string{"a", "b", "c"} {
				texts = append(texts, append(slices.Clone(text), word))
			}
		}
		first = last
	}
	for _, a := range texts {
		for _, b := range texts {
			if l := align(t, a, b); !slices.Equal(l, modelAlign(a, b)) {
				t.Error(a, b, l)
			}
		}
	}
}

// P11.1: longer texts, as in the model; texts of any size have the fewest edits.
func TestAlignAsModel(t *testing.T) {
	next := pseudo()
	for range 300 {
		a := someText(next, 6)
		b := someText(next, 6)
		if next(2) == 0 {
			b = someOther(next, a)
			b = b[:min(len(b), 7)]
		}
		if l := align(t, a, b); !slices.Equal(l, modelAlign(a, b)) {
			t.Error(a, b, l)
		}
	}
	for range 3000 {
		a := someText(next, 20)
		b := someText(next, 20)
		if next(2) == 0 {
			b = someOther(next, a)
		}
		if l := align(t, a, b); len(l) != modelDistance(a, b) {
			t.Error(a, b, l)
		}
	}
}

// noTexts returns lists of words that are no texts.
func noTexts() [][]string {
	l := [][]string{{""}, {"a", ""}, {"", "a"}, {"A"}, {"a b"}, {"a "}, {" a"}, {"a\n"}, {"é"}, {"aé"}, {"a1"}, {"a-b"}, {"\xff"}, {"a\xff"}, {"\x00"}, {strings.Repeat("a", 13)}, {strings.Repeat("a", 12), strings.Repeat("b", 13)}, times(21, "a"), times(21, ""), {strings.Repeat("a", 1<<16)}}
	return append(l, append(times(19, "a"), "A"))
}

// P11.1, P11.2, P11.4: the error of a text comes first, and is that of any of the texts.
func TestNoText(t *testing.T) {
	good := words("a b")
	for _, bad := range noTexts() {
		for _, texts := range [][3][]string{{bad, good, good}, {good, bad, good}, {good, good, bad}, {bad, bad, bad}, {nil, nil, bad}} {
			c, at, e := school.Merge(texts[0], texts[1], texts[2])
			if c != nil || at != 0 || e != api.ErrArg {
				t.Error("Merge", texts, c, at, e)
			}
		}
		l, e := school.Align(bad, good)
		m, f := school.Align(good, bad)
		if l != nil || m != nil || e != api.ErrArg || f != api.ErrArg {
			t.Error("Align", bad, l, e, m, f)
		}
		for _, l := range [][]api.Edit{nil, edits(add(0, "a")), edits(add(-1, "a")), edits(drop(0, "c")), edits(drop(9, "a"))} {
			if b, at, e := school.Apply(bad, l); b != nil || at != 0 || e != api.ErrArg {
				t.Error("Apply", bad, l, b, at, e)
			}
		}
	}
	// Texts of 20 words of 12 letters are valid.
	great := times(20, "abcdefghijkl")
	if c, at, e := school.Merge(great, great, great); !slices.Equal(c, great) || at != 0 || e != api.OK {
		t.Error(c, at, e)
	}
	if b, at, e := school.Apply(great, nil); !slices.Equal(b, great) || at != 0 || e != api.OK {
		t.Error(b, at, e)
	}
}

// P11.1, P11.2: which bytes words are made of, in texts and in edits.
func TestLetters(t *testing.T) {
	for b := range 256 {
		for _, word := range []string{string([]byte{byte(b)}), "a" + string([]byte{byte(b)}), string([]byte{byte(b)}) + "z"} {
			isLetter := 'a' <= b && b <= 'z'
			_, e := school.Align(nil, []string{word})
			_, f := school.Invert(edits(add(0, word)))
			if (e == api.OK) != isLetter || (f == api.OK) != isLetter || !isLetter && (e != api.ErrArg || f != api.ErrForm) {
				t.Errorf("%q %v %v", word, e, f)
			}
		}
	}
}

// P11.2: texts after edits.
func TestApply(t *testing.T) {
	for i, c := range []struct {
		a    string
		l    []api.Edit
		want string
		at   int
		e    api.Errno
	}{
		{"", nil, "", 0, api.OK}, {"a b", nil, "a b", 0, api.OK},
		{"one two three", edits(change(1, "two", "four"), drop(2, "three")), "one four", 0, api.OK}, {"one four", edits(change(1, "four", "two"), add(2, "three")), "one two three", 0, api.OK},
		{"one two", edits(add(0, "x"), add(0, "y"), drop(0, "one"), add(1, "z"), change(1, "two", "three"), add(2, "v"), add(2, "w")), "x y z three v w", 0, api.OK},
		{"a", edits(drop(0, "a")), "", 0, api.OK}, {"", edits(add(0, "a")), "a", 0, api.OK}, {"a b c", edits(change(0, "a", "b"), change(1, "b", "c"), change(2, "c", "a")), "b c a", 0, api.OK}, {"a b c", edits(drop(1, "b")), "a c", 0, api.OK}, {"a b c", edits(add(3, "d")), "a b c d", 0, api.OK},
		{"a b", edits(drop(0, "a"), add(1, "c")), "c b", 0, api.OK}, {"a a", edits(drop(1, "a")), "a", 0, api.OK}, {"a b", edits(add(1, "b"), drop(1, "b")), "a b", 0, api.OK},
		// There is no such word.
		{"", edits(drop(0, "a")), "", 0, api.ErrRange}, {"", edits(change(0, "a", "b")), "", 0, api.ErrRange}, {"", edits(add(1, "a")), "", 0, api.ErrRange}, {"a", edits(drop(1, "a")), "", 0, api.ErrRange}, {"a", edits(change(1, "a", "b")), "", 0, api.ErrRange}, {"a", edits(add(2, "a")), "", 0, api.ErrRange}, {"a", edits(add(1, "a"), drop(1, "a")), "", 1, api.ErrRange}, {"a b c", edits(drop(0, "a"), drop(20, "a")), "", 1, api.ErrRange}, {"a", edits(add(0, "x"), add(1, "y"), add(3, "z")), "", 2, api.ErrRange},
		// There is another word.
		{"a b", edits(drop(0, "b")), "", 0, api.ErrOther}, {"a b", edits(change(0, "b", "a")), "", 0, api.ErrOther}, {"a b", edits(add(0, "a"), drop(1, "a")), "", 1, api.ErrOther}, {"a b", edits(change(0, "a", "b"), change(1, "a", "b")), "", 1, api.ErrOther}, {"ab", edits(drop(0, "a")), "", 0, api.ErrOther}, {"a", edits(drop(0, "ab")), "", 0, api.ErrOther},
		// The first edit with an error decides.
		{"a b", edits(drop(0, "b"), drop(5, "a")), "", 0, api.ErrOther}, {"a b", edits(add(3, "b"), drop(5, "a")), "", 0, api.ErrRange}, {"a b c", edits(drop(0, "a"), drop(1, "c"), drop(2, "b")), "", 1, api.ErrOther}, {"a b c", edits(drop(0, "a"), drop(1, "c"), drop(3, "b")), "", 1, api.ErrOther},
		// How many words there are.
		{"", slices.Repeat(edits(add(0, "a")), 20), strings.Repeat("a ", 20), 0, api.OK}, {"", slices.Repeat(edits(add(0, "a")), 21), "", 0, api.ErrLong}, {"", slices.Repeat(edits(add(0, "a")), 40), "", 0, api.ErrLong}, {"b", slices.Repeat(edits(add(1, "a")), 20), "", 0, api.ErrLong}, {"b", append(slices.Repeat(edits(add(0, "a")), 20), drop(0, "b")), strings.Repeat("a ", 20), 0, api.OK}, {"b", append(slices.Repeat(edits(add(0, "a")), 20), change(0, "b", "c")), "", 0, api.ErrLong}, {strings.Repeat("a ", 20), edits(add(20, "b")), "", 0, api.ErrLong}, {strings.Repeat("a ", 20), edits(drop(0, "a"), add(20, "b")), strings.Repeat("a ", 19) + "b", 0, api.OK}, {strings.Repeat("a ", 20), edits(add(0, "b"), drop(19, "a")), "b " + strings.Repeat("a ", 19), 0, api.OK},
		// An edit with an error comes before a text that is too long.
		{"", append(slices.Repeat(edits(add(0, "a")), 21), drop(0, "a")), "", 21, api.ErrRange}, {"b", append(slices.Repeat(edits(add(0, "a")), 21), drop(0, "a")), "", 21, api.ErrOther},
	} {
		b, at, e := school.Apply(words(c.a), c.l)
		if !slices.Equal(b, words(c.want)) || at != c.at || e != c.e || e != api.OK && b != nil {
			t.Error(i, c.a, c.l, b, at, e)
		}
		x, n, f := modelApply(words(c.a), c.l)
		if !slices.Equal(x, b) || n != at || f != e {
			t.Error("the model differs:", i, c.a, c.l, x, n, f)
		}
	}
}

// manyEdits returns as many edits as there can be in a list: each of 20 words is dropped, with one added in front of it.
func manyEdits() []api.Edit {
	var l []api.Edit
	for at := range 20 {
		l = append(l, add(at, "b"), drop(at, "a"))
	}
	return l
}

// P11.2, P11.3: lists of edits without the right form.
func TestForm(t *testing.T) {
	long, longer := strings.Repeat("a", 12), strings.Repeat("a", 13)
	many := manyEdits()
	for i, c := range []struct {
		l  []api.Edit
		ok bool
	}{
		{nil, true}, {edits(api.Edit{}), false}, {edits(api.Edit{Kind: 4, Old: "a", New: "b"}), false}, {edits(api.Edit{Kind: 4, Old: "a"}), false}, {edits(api.Edit{Kind: 0, New: "b"}), false}, {edits(api.Edit{Kind: -1, Old: "a", New: "b"}), false}, {edits(api.Edit{Kind: 1 << 62, New: "b"}), false},
		{edits(change(0, "a", "b")), true}, {edits(change(0, "a", "a")), false}, {edits(change(0, "", "b")), false}, {edits(change(0, "a", "")), false}, {edits(change(0, "", "")), false}, {edits(change(0, "A", "b")), false}, {edits(change(0, "a", "B")), false}, {edits(change(0, long, "b")), true}, {edits(change(0, longer, "b")), false}, {edits(change(0, "b", long)), true}, {edits(change(0, "b", longer)), false},
		{edits(drop(0, "a")), true}, {edits(drop(0, "")), false}, {edits(drop(0, "A")), false}, {edits(drop(0, "a b")), false}, {edits(drop(0, long)), true}, {edits(drop(0, longer)), false}, {edits(api.Edit{Kind: 2, Old: "a", New: "b"}), false}, {edits(api.Edit{Kind: 2, Old: "a", New: "a"}), false}, {edits(api.Edit{Kind: 2, New: "a"}), false},
		{edits(add(0, "a")), true}, {edits(add(0, "")), false}, {edits(add(0, "A")), false}, {edits(add(0, "a1")), false}, {edits(add(0, long)), true}, {edits(add(0, longer)), false}, {edits(api.Edit{Kind: 3, Old: "a", New: "b"}), false}, {edits(api.Edit{Kind: 3, Old: "a", New: "a"}), false}, {edits(api.Edit{Kind: 3, Old: "a"}), false},
		{edits(add(-1, "a")), false}, {edits(add(20, "a")), true}, {edits(add(21, "a")), false}, {edits(drop(-1, "a")), false}, {edits(drop(20, "a")), true}, {edits(drop(21, "a")), false}, {edits(change(-1, "a", "b")), false}, {edits(change(20, "a", "b")), true}, {edits(change(21, "a", "b")), false}, {edits(add(-1<<63, "a")), false}, {edits(drop(1<<63-1, "a")), false},
		// The order of edits.
		{edits(add(3, "a"), add(3, "b")), true}, {edits(add(3, "a"), drop(3, "b")), true}, {edits(add(3, "a"), change(3, "b", "c")), true}, {edits(add(3, "a"), add(3, "a"), drop(3, "b")), true}, {edits(drop(3, "a"), add(3, "b")), false}, {edits(drop(3, "a"), drop(3, "a")), false}, {edits(drop(3, "a"), change(3, "a", "b")), false}, {edits(change(3, "a", "b"), add(3, "c")), false}, {edits(change(3, "a", "b"), change(3, "b", "c")), false}, {edits(change(3, "a", "b"), drop(3, "b")), false},
		{edits(add(3, "a"), add(4, "b")), true}, {edits(drop(3, "a"), add(4, "b")), true}, {edits(drop(3, "a"), change(4, "b", "c")), true}, {edits(change(3, "a", "b"), drop(19, "c")), true}, {edits(add(3, "a"), add(2, "b")), false}, {edits(add(3, "a"), drop(2, "b")), false}, {edits(drop(3, "a"), drop(2, "b")), false}, {edits(change(3, "a", "b"), change(2, "b", "a")), false}, {edits(add(3, "a"), drop(3, "b"), add(3, "c")), false}, {edits(add(3, "a"), add(5, "a"), add(4, "a")), false},
		// How many there are.
		{many, true}, {append(slices.Clone(many), add(20, "a")), false}, {slices.Repeat(edits(add(0, "a")), 41), false}, {slices.Repeat(edits(drop(0, "a")), 1<<16), false}, {append(slices.Repeat(edits(add(0, "a")), 39), add(0, "b")), true},
	} {
		wrong, f := school.Invert(c.l)
		b, at, e := school.Apply(times(20, "b"), c.l)
		if modelForm(c.l) != c.ok || (e == api.ErrForm) == c.ok || (f == api.ErrForm) == c.ok || !c.ok && (b != nil || at != 0 || wrong != nil) {
			t.Error(i, c.l, b, at, e, wrong, f)
		}
	}
	if b, at, e := school.Apply(times(20, "a"), many); !slices.Equal(b, times(20, "b")) || at != 0 || e != api.OK {
		t.Error(b, at, e)
	}
}

// P11.2: edits of texts, as in the model, right ones and wrong ones.
func TestApplyAsModel(t *testing.T) {
	next := pseudo()
	found := map[api.Errno]int{}
	for range 6000 {
		a := someText(next, 20)
		l := someEdits(next, a, 2+next(6))
		if len(l) > 0 && next(3) == 0 {
			e := &l[next(len(l))]
			switch next(5) {
			case 0:
				e.Old = someWord(next, 7)
			case 1:
				e.At += next(3) - 1
			case 2:
				e.Kind = api.EditKind(next(5))
			case 3:
				e.New = someWord(next, 7)
			case 4:
				a = a[:next(len(a)+1)]
			}
		}
		b, at, e := school.Apply(a, l)
		x, n, f := modelApply(a, l)
		if !slices.Equal(b, x) || at != n || e != f {
			t.Error(a, l, b, at, e, x, n, f)
		}
		found[e]++
	}
	if min(found[api.OK], found[api.ErrForm], found[api.ErrRange], found[api.ErrOther], found[api.ErrLong]) < 100 {
		t.Error("only so many of a sort:", found)
	}
}

// P11.3: edits that undo edits.
func TestInvert(t *testing.T) {
	for i, c := range []struct {
		l, want []api.Edit
		e       api.Errno
	}{
		{nil, nil, api.OK}, {edits(change(1, "two", "four"), drop(2, "three")), edits(change(1, "four", "two"), add(2, "three")), api.OK}, {edits(change(1, "four", "two"), add(2, "three")), edits(change(1, "two", "four"), drop(2, "three")), api.OK},
		{edits(add(0, "a")), edits(drop(0, "a")), api.OK}, {edits(drop(0, "a")), edits(add(0, "a")), api.OK}, {edits(change(0, "a", "b")), edits(change(0, "b", "a")), api.OK},
		{edits(add(2, "a"), add(2, "b"), drop(2, "c"), add(3, "d"), change(5, "e", "f")), edits(drop(2, "a"), drop(3, "b"), add(4, "c"), drop(4, "d"), change(7, "f", "e")), api.OK},
		{edits(drop(1, "a"), drop(3, "b"), change(4, "c", "d"), add(5, "e")), edits(add(1, "a"), add(2, "b"), change(2, "d", "c"), drop(3, "e")), api.OK},
		{edits(drop(0, "a"), drop(1, "b"), add(2, "c")), edits(add(0, "a"), add(0, "b"), drop(0, "c")), api.OK},
		// The greatest number of a word.
		{edits(add(20, "a")), edits(drop(20, "a")), api.OK}, {edits(change(20, "a", "b")), edits(change(20, "b", "a")), api.OK}, {edits(drop(20, "a")), edits(add(20, "a")), api.OK}, {edits(add(0, "a"), drop(19, "b")), edits(drop(0, "a"), add(20, "b")), api.OK}, {edits(add(0, "a"), drop(20, "b")), nil, api.ErrLong}, {edits(add(0, "a"), change(19, "b", "c")), edits(drop(0, "a"), change(20, "c", "b")), api.OK}, {edits(add(0, "a"), change(20, "b", "c")), nil, api.ErrLong}, {edits(add(19, "a"), add(19, "b")), edits(drop(19, "a"), drop(20, "b")), api.OK}, {edits(add(19, "a"), add(19, "b"), add(19, "c")), nil, api.ErrLong}, {edits(drop(0, "a"), add(20, "b"), add(20, "c")), edits(add(0, "a"), drop(19, "b"), drop(20, "c")), api.OK}, {edits(drop(0, "a"), add(20, "b"), add(20, "c"), add(20, "d")), nil, api.ErrLong},
		{slices.Repeat(edits(add(0, "a")), 22), nil, api.ErrLong}, {edits(add(0, "a"), add(0, "b"), drop(18, "c"), drop(19, "d"), drop(20, "e")), edits(drop(0, "a"), drop(1, "b"), add(20, "c"), add(20, "d"), add(20, "e")), api.OK},
		// The form comes first.
		{append(slices.Repeat(edits(add(0, "a")), 22), add(0, "")), nil, api.ErrForm}, {slices.Repeat(edits(add(20, "a")), 41), nil, api.ErrForm}, {edits(add(21, "a")), nil, api.ErrForm},
	} {
		l, e := school.Invert(c.l)
		if !slices.Equal(l, c.want) || e != c.e || e != api.OK && l != nil {
			t.Error(i, c.l, l, e)
		}
		if m, f := modelInvert(c.l); !slices.Equal(m, c.want) || f != c.e {
			t.Error("the model differs:", i, m, f)
		}
	}
}

// P11.3: edits as in the model, for texts that need not be there; what undoes them has the right form.
func TestInvertAsModel(t *testing.T) {
	next := pseudo()
	found := map[api.Errno]int{}
	for range 4000 {
		l := someEdits(next, someText(next, 20), 2+next(6))
		for i := range l {
			if next(20) == 0 {
				l[i].At += next(4)
			}
		}
		m, e := school.Invert(l)
		want, f := modelInvert(l)
		if !slices.Equal(m, want) || e != f || !modelForm(m) {
			t.Error(l, m, e, want, f)
		}
		found[e]++
	}
	if min(found[api.OK], found[api.ErrForm], found[api.ErrLong]) < 100 {
		t.Error("only so many of a sort:", found)
	}
}

// P11.4: the examples of the chapter, what clashes and what does not.
func TestMerge(t *testing.T) {
	nineteen := strings.Repeat("a ", 19)
	for _, c := range []struct {
		base, a, b, want string
		at               int
		e                api.Errno
	}{
		{"lay the bricks", "lay the red bricks", "lay bricks", "lay red bricks", 0, api.OK}, {"lay the bricks", "lay the red bricks", "lay old bricks", "lay old red bricks", 0, api.OK}, {"lay the bricks", "lay the new bricks", "lay the red bricks", "", 2, api.ErrClash},
		{"", "", "", "", 0, api.OK}, {"a", "a", "a", "a", 0, api.OK}, {"a", "", "", "", 0, api.OK}, {"", "a", "a", "a", 0, api.OK}, {"", "a", "b", "", 0, api.ErrClash}, {"", "a b", "a b", "a b", 0, api.OK}, {"", "a b", "b a", "", 0, api.ErrClash}, {"", "a b", "a", "", 0, api.ErrClash}, {"", "a", "", "a", 0, api.OK},
		// Both change or drop a word.
		{"a b c", "a x c", "a x c", "a x c", 0, api.OK}, {"a b c", "a x c", "a y c", "", 1, api.ErrClash}, {"a b c", "a x c", "a c", "", 1, api.ErrClash}, {"a b c", "a c", "a c", "a c", 0, api.OK}, {"a b c", "x b c", "y b c", "", 0, api.ErrClash}, {"a b c", "a b x", "a b", "", 2, api.ErrClash},
		// They change, or drop, different words.
		{"a b c", "x b c", "a b y", "x b y", 0, api.OK}, {"a b c", "b c", "a b", "b", 0, api.OK}, {"a b c", "x y c", "x b z", "x y z", 0, api.OK}, {"a b c", "b c", "a x c", "x c", 0, api.OK},
		// Both add words.
		{"a b", "a x b", "a x b", "a x b", 0, api.OK}, {"a b", "a x y b", "a x y b", "a x y b", 0, api.OK}, {"a b", "a x y b", "a x b", "", 1, api.ErrClash}, {"a b", "a x y b", "a y x b", "", 1, api.ErrClash}, {"a b", "x a b", "a b x", "x a b x", 0, api.OK}, {"a b", "a b x", "a b y", "", 2, api.ErrClash}, {"a b", "x a b", "y a b", "", 0, api.ErrClash},
		// What one adds in front of a word, and the other one does with the word.
		{"a b", "a x b", "a y", "a x y", 0, api.OK}, {"a b", "a x b", "a", "a x", 0, api.OK}, {"a b", "x a b", "b", "x b", 0, api.OK}, {"a b", "a b x", "", "x", 0, api.OK}, {"a", "x a", "y", "x y", 0, api.OK},
		// Both do the same, and one of them more.
		{"a b", "x a b y", "x a b", "x a b y", 0, api.OK}, {"a b c", "x a y c", "x a b c", "x a y c", 0, api.OK}, {"a b c d", "b x d", "b c d y", "b x d y", 0, api.OK},
		// The least number counts.
		{"a b c", "x y c", "z v c", "", 0, api.ErrClash}, {"a b c", "a x c y", "a z c v", "", 1, api.ErrClash}, {"a b c", "a b x c y", "a b z c v", "", 2, api.ErrClash}, {"a b c", "x b c y", "x b c z", "", 3, api.ErrClash},
		// How many words there are; a clash comes first.
		{nineteen, nineteen + "b", "c " + nineteen, "", 0, api.ErrLong}, {nineteen, nineteen + "b", nineteen + "b", nineteen + "b", 0, api.OK}, {nineteen, nineteen + "b", nineteen + "c", "", 19, api.ErrClash}, {nineteen, nineteen + "b", nineteen, nineteen + "b", 0, api.OK}, {nineteen + "b", nineteen + "c", "d " + nineteen, "", 19, api.ErrClash}, {nineteen + "b", "d " + nineteen, nineteen + "b", "d " + nineteen, 0, api.OK},
		{"b " + nineteen, "b " + nineteen, nineteen, nineteen, 0, api.OK}, {"a b", "a b" + strings.Repeat(" x", 18), "a b", "a b" + strings.Repeat(" x", 18), 0, api.OK}, {"a b", "a b" + strings.Repeat(" x", 18), "y a b", "", 0, api.ErrLong}, {"a b", "a b" + strings.Repeat(" x", 18), "b", "b" + strings.Repeat(" x", 18), 0, api.OK}, {"a b", "a b" + strings.Repeat(" x", 18), "y b", "y b" + strings.Repeat(" x", 18), 0, api.OK}, {"a b", "a b" + strings.Repeat(" x", 18), "y a", "y a" + strings.Repeat(" x", 18), 0, api.OK}, {"a b", "x" + strings.Repeat(" x", 17) + " a b", "a b" + strings.Repeat(" y", 18), "", 0, api.ErrLong},
	} {
		base, a, b := words(c.base), words(c.a), words(c.b)
		d, at, e := school.Merge(base, a, b)
		if !slices.Equal(d, words(c.want)) || at != c.at || e != c.e || e != api.OK && d != nil {
			t.Error(c, d, at, e)
		}
		other, n, f := school.Merge(base, b, a)
		if !slices.Equal(d, other) || at != n || e != f {
			t.Error("the other way round:", c, other, n, f)
		}
	}
}

// P11.4, P11.10: as in the model, with the edits of Align; the same both ways round; nothing but the other text if one is the base, or both are the same.
func TestMergeAsModel(t *testing.T) {
	next := pseudo()
	found := map[api.Errno]int{}
	for range 8000 {
		base := someText(next, 20)
		a, b := someOther(next, base), someOther(next, base)
		if next(3) == 0 {
			b = someText(next, 20)
		}
		if next(3) == 0 && len(base) > 0 {
			// Each of them changes a part of the text alone.
			half := next(len(base))
			a = append(someOther(next, base[:half]), base[half:]...)
			b = append(slices.Clone(base[:half]), someOther(next, base[half:])...)
			a, b = a[:min(20, len(a))], b[:min(20, len(b))]
		}
		c, at, e := school.Merge(base, a, b)
		want, n, f := modelMerge(base, align(t, base, a), align(t, base, b))
		if !slices.Equal(c, want) || at != n || e != f {
			t.Error(base, a, b, c, at, e, want, n, f)
		}
		found[e]++
		d, m, g := school.Merge(base, b, a)
		if !slices.Equal(d, c) || m != at || g != e {
			t.Error("the other way round:", base, a, b, d, m, g)
		}
		for _, l := range [][2][]string{{a, base}, {base, a}, {a, a}} {
			if c, at, e := school.Merge(base, l[0], l[1]); !slices.Equal(c, a) || at != 0 || e != api.OK {
				t.Error(base, l, c, at, e)
			}
		}
	}
	if min(found[api.OK], found[api.ErrClash], found[api.ErrLong]) < 50 {
		t.Error("only so many of a sort:", found)
	}
}

// P11.9: Apply of what Align returns makes one text of the other; as many edits lead back, and no fewer lead over a third text.
func TestLawsOfEdits(t *testing.T) {
	next := pseudo()
	for range 4000 {
		a := someText(next, 20)
		b, over := someOther(next, a), someOther(next, a)
		if next(2) == 0 {
			b, over = someText(next, 20), someText(next, 20)
		}
		l := align(t, a, b)
		made, at, e := school.Apply(a, l)
		if !slices.Equal(made, b) || at != 0 || e != api.OK {
			t.Error(a, b, l, made, at, e)
		}
		if len(l) != len(align(t, b, a)) || len(l) > len(align(t, a, over))+len(align(t, over, b)) || len(align(t, a, a)) > 0 || (len(l) == 0) != slices.Equal(a, b) {
			t.Error(a, b, over, l)
		}
	}
}

// P11.9: Apply of Invert undoes Apply; twice inverted, edits are the same ones.
func TestUndone(t *testing.T) {
	next := pseudo()
	done := 0
	for range 4000 {
		a := someText(next, 20)
		l := someEdits(next, a, 2+next(6))
		b, _, e := school.Apply(a, l)
		m, f := school.Invert(l)
		if e != api.OK {
			continue
		}
		done++
		back, at, g := school.Apply(b, m)
		again, h := school.Invert(m)
		if !slices.Equal(back, a) || !slices.Equal(again, l) || at != 0 || f != api.OK || g != api.OK || h != api.OK {
			t.Error(a, l, b, m, f, back, at, g, again, h)
		}
	}
	if done < 1000 {
		t.Error("only so many were done:", done)
	}
}
