package peg

import (
	"slices"
	"strings"
	"testing"

	"chiti/api"
)

func written(kind api.PegKind, a, b, c, d, n, num, den int) api.PegStep {
	return api.PegStep{Kind: kind, A: a, B: b, C: c, D: d, N: n, Num: num, Den: den}
}

// P3.6: each kind of steps has a line of its own form.
func TestLines(t *testing.T) {
	for _, c := range []struct {
		s    api.PegStep
		text string
	}{
		{written(api.PegLine, 0, 1, 0, 0, 0, 0, 0), "line 0 1\n"},
		{written(api.PegLine, 999, 10, 0, 0, 0, 0, 0), "line 999 10\n"},
		{written(api.PegCircle, 0, 10, 999, 0, 0, 0, 0), "circle 0 10 999\n"},
		{written(api.PegCross, 1, 0, 0, 0, 0, 0, 0), "cross 1 0\n"},
		{written(api.PegCut, 1, 2, 0, 0, 1, 0, 0), "cut 1 2 1\n"},
		{written(api.PegCut, 100, 200, 0, 0, 0, 0, 0), "cut 100 200 0\n"},
		{written(api.PegJoin, 3, 4, 0, 0, 0, 0, 0), "join 3 4 0\n"},
		{written(api.PegJoin, 3, 4, 0, 0, 1, 0, 0), "join 3 4 1\n"},
		{written(api.PegMark, 1, 2, 0, 0, 0, -100000, 100000), "mark 1 2 -100000/100000\n"},
		{written(api.PegMark, 1, 2, 0, 0, 0, 100000, 1), "mark 1 2 100000/1\n"},
		{written(api.PegMark, 1, 2, 0, 0, 0, 0, 7), "mark 1 2 0/7\n"},
		{written(api.PegMark, 0, 0, 0, 0, 0, 6, 4), "mark 0 0 6/4\n"},
		{written(api.PegGnomon, 5, 6, 0, 0, 0, 0, 0), "gnomon 5 6\n"},
		{written(api.PegAlong, 1, 2, 3, 4, 0, 0, 0), "along 1 2 3 4\n"},
		{written(api.PegAlong, 999, 999, 999, 999, 0, 0, 0), "along 999 999 999 999\n"},
	} {
		if s, e := Write([]api.PegStep{c.s}); s != c.text || e != api.OK {
			t.Errorf("%q %q %d", c.text, s, e)
		}
		if l, line, e := Read(c.text); !slices.Equal(l, []api.PegStep{c.s}) || line != 0 || e != api.OK {
			t.Error(c.text, l, line, e)
		}
	}
	if s, e := Write(nil); s != "" || e != api.OK {
		t.Error(s, e)
	}
	if l, line, e := Read(""); len(l) != 0 || line != 0 || e != api.OK {
		t.Error(l, line, e)
	}
}

// P3.6: what Write refuses, and in which order.
func TestWriteErrors(t *testing.T) {
	good := written(api.PegLine, 0, 1, 0, 0, 0, 0, 0)
	for _, s := range []api.PegStep{
		{},
		written(-1, 0, 1, 0, 0, 0, 0, 0),
		written(9, 0, 1, 0, 0, 0, 0, 0),
		written(api.PegLine, -1, 1, 0, 0, 0, 0, 0),
		written(api.PegLine, 1000, 1, 0, 0, 0, 0, 0),
		written(api.PegLine, 0, -1, 0, 0, 0, 0, 0),
		written(api.PegLine, 0, 1000, 0, 0, 0, 0, 0),
		written(api.PegLine, 0, 1, 1, 0, 0, 0, 0),
		written(api.PegLine, 0, 1, 0, 1, 0, 0, 0),
		written(api.PegLine, 0, 1, 0, 0, 1, 0, 0),
		written(api.PegLine, 0, 1, 0, 0, 0, 1, 0),
		written(api.PegLine, 0, 1, 0, 0, 0, 0, 1),
		written(api.PegCircle, 0, 1, -1, 0, 0, 0, 0),
		written(api.PegCircle, 0, 1, 1000, 0, 0, 0, 0),
		written(api.PegCircle, 0, 1, 0, 1, 0, 0, 0),
		written(api.PegCross, 0, 1, 0, 0, 1, 0, 0),
		written(api.PegCut, 0, 1, 0, 0, 2, 0, 0),
		written(api.PegCut, 0, 1, 0, 0, -1, 0, 0),
		written(api.PegCut, 0, 1, 1, 0, 0, 0, 0),
		written(api.PegJoin, 0, 1, 0, 0, 2, 0, 0),
		written(api.PegMark, 0, 1, 0, 0, 0, 1, 0),
		written(api.PegMark, 0, 1, 0, 0, 0, 1, -1),
		written(api.PegMark, 0, 1, 0, 0, 0, 1, 100001),
		written(api.PegMark, 0, 1, 0, 0, 0, 100001, 1),
		written(api.PegMark, 0, 1, 0, 0, 0, -100001, 1),
		written(api.PegMark, 0, 1, 0, 0, 1, 1, 1),
		written(api.PegGnomon, 0, 1, 1, 0, 0, 0, 0),
		written(api.PegAlong, 0, 1, 0, 1000, 0, 0, 0),
		written(api.PegAlong, 0, 1, 0, -1, 0, 0, 0),
		written(api.PegAlong, 0, 1, 0, 0, 1, 0, 0),
	} {
		for _, l := range [][]api.PegStep{{s}, {good, s}, {s, good}} {
			if text, e := Write(l); text != "" || e != api.ErrForm {
				t.Errorf("%v %q %d", l, text, e)
			}
		}
	}
	if s, e := Write(make([]api.PegStep, 41)); s != "" || e != api.ErrLong {
		t.Error(s, e)
	}
	if s, e := Write(make([]api.PegStep, 40)); s != "" || e != api.ErrForm {
		t.Error(s, e)
	}
	longest := slices.Repeat([]api.PegStep{written(api.PegMark, 999, 999, 0, 0, 0, -100000, 100000)}, 40)
	if s, e := Write(longest); s != strings.Repeat("mark 999 999 -100000/100000\n", 40) || e != api.OK {
		t.Error(s, e)
	}
}

// P3.6: lines that are none.
func TestFormlessLines(t *testing.T) {
	for _, s := range []string{
		"line 0 1", "line 0\n", "line\n", "line \n", "line 0 1 2\n", "line 0 1 \n", "line 0 1\r\n", " line 0 1\n", "line  0 1\n", "line 0  1\n", "line\t0 1\n", "\n", " \n", "0 1\n",
		"Line 0 1\n", "lines 0 1\n", "lin 0 1\n", "pull 0 1\n", "line0 1\n", "line, 0 1\n",
		"line 00 1\n", "line 01 1\n", "line +0 1\n", "line -1 0\n", "line -0 0\n", "line 0 1000\n", "line 1000 0\n", "line 0 0x1\n", "line 0 1.0\n", "line a b\n", "line 0 ٣\n", "line 0 1_0\n", "line 0 99999999999999999999\n",
		"circle 0 1\n", "circle 0 1 2 3\n", "circle 0 1 1000\n", "circle 0 1 -1\n", "cross 0\n", "cross 0 1 2\n", "gnomon 0\n", "gnomon 0 1 2\n", "along 0 1 2\n", "along 0 1 2 3 4\n", "along 0 1 2 1000\n", "along 0 1 2 -3\n",
		"cut 0 0\n", "cut 0 0 2\n", "cut 0 0 -1\n", "cut 0 0 00\n", "cut 0 0 01\n", "cut 0 0 -0\n", "cut 0 0 1 0\n", "cut 0 0 \n", "cut 0 1000 1\n", "join 0 0\n", "join 0 0 2\n", "join 0 0 x\n", "join 1000 0 1\n",
		"mark 0 1\n", "mark 0 1 2\n", "mark 0 1 2/\n", "mark 0 1 /2\n", "mark 0 1 /\n", "mark 0 1 1/0\n", "mark 0 1 0/0\n", "mark 0 1 -0/1\n", "mark 0 1 00/1\n", "mark 0 1 +1/1\n", "mark 0 1 1/+1\n", "mark 0 1 1/-2\n", "mark 0 1 --1/2\n", "mark 0 1 1/2/3\n", "mark 0 1 1 2\n", "mark 0 1 1 /2\n",
		"mark 0 1 01/1\n", "mark 0 1 -01/1\n", "mark 0 1 1/01\n", "mark 0 1 100001/1\n", "mark 0 1 -100001/1\n", "mark 0 1 1/100001\n", "mark 0 1 999999/1\n", "mark 0 1 1000000/1\n", "mark 0 1 1/1000000\n", "mark 1000 1 1/2\n", "mark 0 1000 1/2\n",
		"line 0 1\x00\n", "line 0 1\xff\n", "line\u00a00 1\n", "line 0 1\n line 0 1\n",
	} {
		for k, front := range []string{"", "line 0 1\n", "along 1 2 3 4\nmark 0 1 -1/2\n"} {
			want := k + 1
			if s == "line 0 1\n line 0 1\n" {
				want++
			}
			if l, line, e := Read(front + s); l != nil || line != want || e != api.ErrForm {
				t.Errorf("%q %v %d %d", front+s, l, line, e)
			}
			if l, line, e := Read(front + s + "nor this"); l != nil || line != want || e != api.ErrForm {
				t.Errorf("%q %v %d %d", front+s, l, line, e)
			}
		}
	}
}

// P3.6: how long a text may be, in bytes and in lines.
func TestLongTexts(t *testing.T) {
	forty := strings.Repeat("line 0 1\n", 40)
	for _, c := range []struct {
		text string
		line int
		e    api.Errno
	}{
		{forty, 0, api.OK},
		{forty + "line 0 1\n", 41, api.ErrLong},
		{forty + "line 0 1", 41, api.ErrForm},
		{forty + "line 0\n", 41, api.ErrForm},
		{forty + "\n", 41, api.ErrForm},
		{forty + "line 0 1\nline 0 1\n", 41, api.ErrLong},
		{forty + "line 0 1\nline\n", 41, api.ErrLong},
		{"line\n" + forty, 1, api.ErrForm},
		{strings.Repeat("x", 4000), 1, api.ErrForm},
		{strings.Repeat("x", 4001), 0, api.ErrLong},
		{strings.Repeat("\n", 4001), 0, api.ErrLong},
		{strings.Repeat("\n", 4000), 1, api.ErrForm},
		{"line 0 1\n" + strings.Repeat("é", 1995) + "\n", 2, api.ErrForm},
		{"line 0 1\n" + strings.Repeat("é", 1996), 0, api.ErrLong},
		{forty + strings.Repeat("line 0 1\n", 404), 41, api.ErrLong},
		{forty + strings.Repeat("line 0 1\n", 405), 0, api.ErrLong},
	} {
		l, line, e := Read(c.text)
		if line != c.line || e != c.e || (e == api.OK) != (len(l) == 40) {
			t.Errorf("%.20q %d %d %d", c.text, len(l), line, e)
		}
	}
}

// canonical reports, byte by byte, whether a line without its end is one of a step.
func canonical(line string) bool {
	words := strings.Split(line, " ")
	digits := func(s string, most int) bool {
		isDigits := s != "" && len(s) <= most && strings.Trim(s, "0123456789") == ""
		return isDigits && (s == "0" || s[0] != '0')
	}
	mark := func(s string) bool {
		halves := strings.Split(s, "/")
		if len(halves) != 2 {
			return false
		}
		num, den := strings.TrimPrefix(halves[0], "-"), halves[1]
		small := func(s string) bool { return digits(s, 6) && (len(s) < 6 || s == "100000") }
		return small(num) && halves[0] != "-0" && small(den) && den != "0"
	}
	kinds := map[string]string{"line": "pp", "circle": "ppp", "cross": "pp", "cut": "pps", "join": "pps", "mark": "ppm", "gnomon": "pp", "along": "pppp"}
	kind, is := kinds[words[0]]
	if !is || len(words) != len(kind)+1 {
		return false
	}
	for i, word := range words[1:] {
		switch kind[i] {
		case 'p':
			is = is && digits(word, 3)
		case 's':
			is = is && (word == "0" || word == "1")
		case 'm':
			is = is && mark(word)
		}
	}
	return is
}

// P3.6 and P3.10: of texts that were changed in one byte, those are read that have the form, and they are what is written.
func TestChangedTexts(t *testing.T) {
	read := 0
	for _, text := range []string{"line 0 10\n", "circle 0 1 12\n", "cross 9 10\n", "cut 1 2 1\n", "join 10 0 0\n", "mark 1 2 -10/27\n", "mark 0 1 0/100000\n", "mark 0 1 100000/1\n", "gnomon 5 6\n", "along 1 2 3 400\n"} {
		var changed []string
		for i := range text {
			changed = append(changed, text[:i]+text[i+1:])
			for c := range 256 {
				changed = append(changed, text[:i]+string([]byte{byte(c)})+text[i+1:], text[:i]+string([]byte{byte(c)})+text[i:])
			}
		}
		for _, s := range changed {
			l, line, e := Read(s)
			want := strings.HasSuffix(s, "\n")
			for _, line := range strings.Split(strings.TrimSuffix(s, "\n"), "\n") {
				want = want && canonical(line)
			}
			if (e == api.OK) != want || e != api.OK && (l != nil || line == 0) {
				t.Errorf("%q %v %d %d", s, l, line, e)
			}
			if e != api.OK {
				continue
			}
			read++
			if again, f := Write(l); again != s || f != api.OK {
				t.Errorf("%q is read, and written as %q", s, again)
			}
		}
	}
	if read < 200 {
		t.Error("only so many were read:", read)
	}
}

// P3.10: what is written is read as the same steps.
func TestTextLaws(t *testing.T) {
	next := pseudo()
	few := func() int { return next([]int{1, 2, 10, 100, 1000}[next(5)]) }
	for range 3000 {
		var l []api.PegStep
		for range next(41) {
			s := api.PegStep{Kind: api.PegKind(1 + next(8)), A: few(), B: few()}
			switch s.Kind {
			case api.PegAlong:
				s.C, s.D = few(), few()
			case api.PegCircle:
				s.C = few()
			case api.PegCut, api.PegJoin:
				s.N = next(2)
			case api.PegMark:
				s.Num, s.Den = few()*next(101)*(1-2*next(2)), 1+few()*next(100)
			}
			l = append(l, s)
		}
		s, e := Write(l)
		m, line, f := Read(s)
		if e != api.OK || !slices.Equal(l, m) || line != 0 || f != api.OK || len(s) > api.MaxText {
			t.Error(l, s, e, m, line, f)
		}
	}
}
