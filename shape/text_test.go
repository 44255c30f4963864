package shape_test

import (
	"slices"
	"strings"
	"testing"

	"chiti/api"
	"chiti/shape"
)

// P6.3: each kind of steps has a line of its own form.
func TestLines(t *testing.T) {
	for _, c := range []struct {
		s    api.GroundStep
		text string
	}{
		{added(0, 0, 1, 1), "add 0 0 1 1\n"},
		{added(15, 10, 16, 9), "add 15 10 16 9\n"},
		{cut(1, 2, 3, 4), "cut 1 2 3 4\n"},
		{corner(1, 2, 3, 0), "corner 1 2 3 ne\n"},
		{corner(0, 15, 16, 1), "corner 0 15 16 es\n"},
		{corner(1, 2, 3, 2), "corner 1 2 3 sw\n"},
		{corner(1, 2, 3, 3), "corner 1 2 3 wn\n"},
		{clip(1, 2, 3, 0), "clip 1 2 3 ne\n"},
		{clip(1, 2, 3, 1), "clip 1 2 3 es\n"},
		{clip(1, 2, 3, 2), "clip 1 2 3 sw\n"},
		{clip(15, 0, 1, 3), "clip 15 0 1 wn\n"},
		{laid("half", 1, 2, 3), "brick half 1 2 3\n"},
		{laid("bent", 15, 14, 0), "brick bent 15 14 0\n"},
		{laidReflected("triangle", 0, 15, 2), "reflected triangle 0 15 2\n"},
		{laidReflected("square", 1, 2, 0), "reflected square 1 2 0\n"},
		{mirror(0), "mirror 0\n"},
		{mirror(30), "mirror 30\n"},
		{turn(0), "turn 0\n"},
		{turn(30), "turn 30\n"},
	} {
		if s, e := shape.Format(program(c.s)); s != c.text || e != api.OK {
			t.Errorf("%q %q %d", c.text, s, e)
		}
		if l, e := shape.Parse(c.text); !slices.Equal(l, program(c.s)) || e != api.OK {
			t.Error(c.text, l, e)
		}
	}
	for _, name := range kinds() {
		if l, e := shape.Parse("brick " + name + " 1 2 3\nreflected " + name + " 3 2 1\n"); !slices.Equal(l, program(laid(name, 1, 2, 3), laidReflected(name, 3, 2, 1))) || e != api.OK {
			t.Error(name, l, e)
		}
	}
	if s, e := shape.Format(nil); s != "" || e != api.OK {
		t.Error(s, e)
	}
	if l, e := shape.Parse(""); len(l) != 0 || e != api.OK {
		t.Error(l, e)
	}
}

// P6.3: lines that are none, alone, and ahead of and behind those of steps.
func TestFormlessLines(t *testing.T) {
	for _, s := range []string{
		"add 0 0 1 1", "add 0 0 1\n", "add\n", "add \n", "add 0 0 1 1 1\n", "add 0 0 1 1 \n", "add 0 0 1 1\r\n", " add 0 0 1 1\n", "add  0 0 1 1\n", "add 0 0  1 1\n", "add\t0 0 1 1\n", "add 0\t0 1 1\n", "\n", " \n", "0 0 1 1\n", "\x00\n",
		"Add 0 0 1 1\n", "adds 0 0 1 1\n", "ad 0 0 1 1\n", "put 0 0 1 1\n", "add0 0 1 1\n", "add,0 0 1 1\n", "1 0 0 1 1\n",
		"add 00 0 1 1\n", "add 0 01 1 1\n", "add 0 0 +1 1\n", "add -0 0 1 1\n", "add -1 0 1 1\n", "add 16 0 1 1\n", "add 0 16 1 1\n", "add 0 0 0 1\n", "add 0 0 1 0\n", "add 0 0 17 1\n", "add 0 0 1 17\n", "add 0 0 1 -1\n", "add 0 0 1 0x1\n", "add 0 0 1 1.0\n", "add a 0 1 1\n", "add ٣ 0 1 1\n", "add 1_0 0 1 1\n", "add 0 0 1 99999999999999999999\n", "add 0 0 1 18446744073709551617\n", "add 0 0 1 ne\n",
		"cut 0 0 1\n", "cut 0 0 1 1 1\n", "cut 0 0 1 17\n", "cut 0 0 0 1\n",
		"corner 0 0 1\n", "corner 0 0 1 0\n", "corner 0 0 1 nw\n", "corner 0 0 1 en\n", "corner 0 0 1 se\n", "corner 0 0 1 ws\n", "corner 0 0 1 NE\n", "corner 0 0 1 n\n", "corner 0 0 1 nee\n", "corner 0 0 1 \n", "corner 0 0 1 ne 1\n", "corner 0 0 1 1 ne\n", "corner 0 0 0 ne\n", "corner 0 0 17 ne\n", "corner 16 0 1 ne\n", "corner 0 -1 1 ne\n", "corner 0 0 01 ne\n",
		"clip 0 0 1\n", "clip 0 0 1 4\n", "clip 0 0 0 es\n", "clip 0 0 1 sn\n", "clip ne 0 0 1\n",
		"brick half 0 0\n", "brick half 0 0 4\n", "brick half 0 0 -1\n", "brick half 16 0 0\n", "brick half 0 16 0\n", "brick half 0 0 00\n", "brick brick 0 0 0\n", "brick  0 0 0\n", "brick 0 0 0\n", "brick Half 0 0 0\n", "brick half 0 0 0 0\n", "brick half 0 0 0 r\n", "brick f 0 0 0\n", "brick 0 0 0 half\n", "brick half\x00 0 0 0\n",
		"reflected half 0 0\n", "reflected half 0 0 4\n", "reflected brick half 0 0 0\n", "reflected ha 0 0 0\n", "reflected 0 0 0\n",
		"mirror\n", "mirror \n", "mirror 31\n", "mirror -1\n", "mirror -0\n", "mirror 00\n", "mirror 0 0\n", "mirror 4294967296\n", "mirror x\n", "turn\n", "turn 31\n", "turn 01\n", "turn 1 \n", "turn 1 1\n", "turn +1\n", "turns 1\n", "turn 1\n turn 1\n", "turn 1\n\n", "turn 1\v\n", "turn\u00a01\n", "turn 1\xff\n",
	} {
		for _, text := range []string{s, "add 0 0 1 1\n" + s, s + "mirror 4\n", "turn 9\n" + s + "clip 1 2 3 es\n"} {
			if l, e := shape.Parse(text); len(l) != 0 || e != api.ErrForm {
				t.Errorf("%q %v %d", text, l, e)
			}
		}
	}
}

// P6.3: how long a text may be, in bytes and in lines.
func TestLongTexts(t *testing.T) {
	longest := "reflected triangle 15 15 3\n"
	for _, c := range []struct {
		text string
		e    api.Errno
	}{
		{strings.Repeat(longest, 60), api.OK},
		{strings.Repeat(longest, 61), api.ErrForm},
		{strings.Repeat("turn 0\n", 60), api.OK},
		{strings.Repeat("turn 0\n", 61), api.ErrForm},
		{strings.Repeat("turn 0\n", 285), api.ErrForm},
		{strings.Repeat("turn 0\n", 286), api.ErrLong},
		{strings.Repeat("x", 2000), api.ErrForm},
		{strings.Repeat("x", 2001), api.ErrLong},
		{strings.Repeat("\n", 2000), api.ErrForm},
		{strings.Repeat("\n", 2001), api.ErrLong},
		{strings.Repeat(" ", 2000), api.ErrForm},
		{strings.Repeat("é", 1000), api.ErrForm},
		{strings.Repeat("é", 1000) + "x", api.ErrLong},
		{strings.Repeat("add 0 0 1 1\n", 1<<16), api.ErrLong},
	} {
		if l, e := shape.Parse(c.text); e != c.e || (e == api.OK) != (len(l) == 60) || e != api.OK && len(l) != 0 {
			t.Errorf("%.20q %d %d %d", c.text, len(c.text), len(l), e)
		}
	}
	if s, e := shape.Format(slices.Repeat(program(laidReflected("triangle", 15, 15, 3)), 60)); s != strings.Repeat(longest, 60) || e != api.OK {
		t.Error(s, e)
	}
}

// canonical reports, byte by byte, whether a line without its end is one of a step.
func canonical(line string) bool {
	numbers := func(low, high int) []string {
		var l []string
		for n := low; n <= high; n++ {
			l = append(l, strings.TrimPrefix(string([]byte{'0' + byte(n/10), '0' + byte(n%10)}), "0"))
		}
		return l
	}
	column, length, turns, sum := numbers(0, 15), numbers(1, 16), numbers(0, 3), numbers(0, 30)
	sides := []string{"ne", "es", "sw", "wn"}
	forms := map[string][][]string{
		"add": {column, column, length, length}, "cut": {column, column, length, length},
		"corner": {column, column, length, sides}, "clip": {column, column, length, sides},
		"brick": {kinds(), column, column, turns}, "reflected": {kinds(), column, column, turns},
		"mirror": {sum}, "turn": {sum},
	}
	words := strings.Split(line, " ")
	form, is := forms[words[0]]
	if !is || len(words) != len(form)+1 {
		return false
	}
	for i, word := range words[1:] {
		is = is && slices.Contains(form[i], word)
	}
	return is
}

// P6.3 and P6.10: of texts that were changed in one byte, those are read that have the form, and they are what is written.
func TestChangedTexts(t *testing.T) {
	read := 0
	for _, text := range []string{"add 0 10 16 1\n", "cut 15 2 3 10\n", "corner 0 1 12 ne\n", "corner 1 1 1 es\n", "clip 9 10 1 sw\n", "clip 1 2 9 wn\n", "brick half 10 0 3\n", "brick bent 0 9 0\n", "reflected diamond 1 15 2\n", "mirror 30\n", "turn 0\n"} {
		var changed []string
		for i := range text {
			changed = append(changed, text[:i]+text[i+1:])
			for c := range 256 {
				changed = append(changed, text[:i]+string([]byte{byte(c)})+text[i+1:], text[:i]+string([]byte{byte(c)})+text[i:])
			}
		}
		for _, s := range changed {
			l, e := shape.Parse(s)
			want := strings.HasSuffix(s, "\n")
			for _, line := range strings.Split(strings.TrimSuffix(s, "\n"), "\n") {
				want = want && canonical(line)
			}
			if (e == api.OK) != want || e != api.OK && (len(l) != 0 || e != api.ErrForm) {
				t.Errorf("%q %v %d", s, l, e)
			}
			if e != api.OK {
				continue
			}
			read++
			if again, f := shape.Format(l); again != s || f != api.OK {
				t.Errorf("%q is read, and written as %q", s, again)
			}
		}
	}
	if read < 300 {
		t.Error("only so many were read:", read)
	}
}

// P6.10: what is written is read as the same program, also if it can not be carried out.
func TestTextsBack(t *testing.T) {
	next := pseudo()
	for range 3000 {
		l := someProgram(next, next(61), 16)
		s, e := shape.Format(l)
		back, f := shape.Parse(s)
		if e != api.OK || !slices.Equal(l, back) || f != api.OK || strings.Count(s, "\n") != len(l) {
			t.Error(l, s, e, back, f)
		}
		for line := range strings.Lines(s) {
			if !canonical(strings.TrimSuffix(line, "\n")) {
				t.Errorf("%q", line)
			}
		}
	}
}
