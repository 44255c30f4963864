package rite_test

import (
	"slices"
	"strings"
	"testing"

	"chiti/api"
	"chiti/rite"
)

// P9.7: the text of a course.
func TestWrite(t *testing.T) {
	for i, c := range []struct {
		r    api.Rite
		l    []api.Deed
		want string
		e    api.Errno
	}{
		{fire(1), nil, "", api.OK},
		{fire(1), course(0, 0), "0 kindle\n", api.OK},
		{fire(2), course(3, 2, 3, 1), "3 amend\n3 offer\n", api.OK},
		{fire(1), course(3, 2, 3, 1), "", api.ErrState},
		{fire(1), course(1, 1), "", api.ErrState},
		{fire(1), course(0, 0, 0, 9), "", api.ErrState},
		{fire(9), course(0, 0), "", api.ErrArg},
		{vow(2), course(0, 0, 2, 4, 2, 2), "0 wake\n2 sprinkle\n2 offer\n", api.OK},
		{many(10), course(9, 9, 10, 0, 30, 1), "9 j\n10 a\n30 b\n", api.OK},
	} {
		text, e := rite.Write(c.r, c.l)
		if text != c.want || e != c.e {
			t.Errorf("%d %q %v", i, text, e)
		}
	}
}

// P9.7: the course of a text, and what is wrong with it.
func TestRead(t *testing.T) {
	long := riteOf(30, 1, must("abcdefghijkl", 0, 30), must("zz", 0, 30))
	for i, c := range []struct {
		r    api.Rite
		s    string
		want []api.Deed
		line int
		e    api.Errno
	}{
		{fire(1), "", nil, 0, api.OK},
		{fire(1), "0 kindle\n", course(0, 0), 0, api.OK},
		{fire(1), "0 kindle\n1 offer\n", course(0, 0, 1, 1), 0, api.OK},
		{fire(2), "3 amend\n3 offer\n", course(3, 2, 3, 1), 0, api.OK},
		{long, "30 abcdefghijkl\n", course(30, 0), 0, api.OK},
		{long, "9 zz\n10 abcdefghijkl\n", course(9, 1, 10, 0), 0, api.OK},
		// Lines that are none.
		{fire(1), "0 kindle", nil, 1, api.ErrForm},
		{fire(1), "0 kindle\n1 offer", nil, 2, api.ErrForm},
		{fire(1), "\n", nil, 1, api.ErrForm},
		{fire(1), "0 kindle\n\n", nil, 2, api.ErrForm},
		{fire(1), "\n0 kindle\n", nil, 1, api.ErrForm},
		{fire(1), " \n", nil, 1, api.ErrForm},
		{fire(1), "0\n", nil, 1, api.ErrForm},
		{fire(1), "0 \n", nil, 1, api.ErrForm},
		{fire(1), "kindle\n", nil, 1, api.ErrForm},
		{fire(1), " kindle\n", nil, 1, api.ErrForm},
		{fire(1), "0kindle\n", nil, 1, api.ErrForm},
		{fire(1), "kindle 0\n", nil, 1, api.ErrForm},
		{fire(1), "0  kindle\n", nil, 1, api.ErrForm},
		{fire(1), " 0 kindle\n", nil, 1, api.ErrForm},
		{fire(1), "0 kindle \n", nil, 1, api.ErrForm},
		{fire(1), "0 kindle 1\n", nil, 1, api.ErrForm},
		{fire(1), "0\tkindle\n", nil, 1, api.ErrForm},
		{fire(1), "0 kindle\r\n", nil, 1, api.ErrForm},
		{fire(1), "0 kindle\x00\n", nil, 1, api.ErrForm},
		// Days.
		{fire(1), "00 kindle\n", nil, 1, api.ErrForm},
		{fire(1), "01 kindle\n", nil, 1, api.ErrForm},
		{fire(1), "001 kindle\n", nil, 1, api.ErrForm},
		{fire(1), "100 kindle\n", nil, 1, api.ErrForm},
		{fire(1), "000 kindle\n", nil, 1, api.ErrForm},
		{fire(1), "18446744073709551616 kindle\n", nil, 1, api.ErrForm},
		{fire(1), "-1 kindle\n", nil, 1, api.ErrForm},
		{fire(1), "-0 kindle\n", nil, 1, api.ErrForm},
		{fire(1), "+1 kindle\n", nil, 1, api.ErrForm},
		{fire(1), "1_0 kindle\n", nil, 1, api.ErrForm},
		{fire(1), "0x kindle\n", nil, 1, api.ErrForm},
		{fire(1), "a kindle\n", nil, 1, api.ErrForm},
		{fire(1), "1. kindle\n", nil, 1, api.ErrForm},
		{fire(1), "٣ kindle\n", nil, 1, api.ErrForm},
		{fire(1), "99 kindle\n", nil, 1, api.ErrState},
		{fire(1), "10 kindle\n", nil, 1, api.ErrState},
		{fire(1), "6 kindle\n", nil, 1, api.ErrState},
		// Names.
		{fire(1), "0 Kindle\n", nil, 1, api.ErrForm},
		{fire(1), "0 kindl3\n", nil, 1, api.ErrForm},
		{fire(1), "0 kïndle\n", nil, 1, api.ErrForm},
		{fire(1), "0 abcdefghijklm\n", nil, 1, api.ErrForm},
		{fire(1), "0 abcdefghijkl\n", nil, 1, api.ErrNone},
		{fire(1), "0 k\n", nil, 1, api.ErrNone},
		{fire(1), "0 kindles\n", nil, 1, api.ErrNone},
		{fire(1), "99 kindles\n", nil, 1, api.ErrNone},
		{fire(1), "100 kindles\n", nil, 1, api.ErrForm},
		// Deeds.
		{fire(1), "1 offer\n", nil, 1, api.ErrState},
		{fire(1), "0 amend\n", nil, 1, api.ErrState},
		{fire(1), "0 kindle\n0 kindle\n", nil, 2, api.ErrState},
		{fire(1), "2 kindle\n1 offer\n", nil, 2, api.ErrState},
		{fire(1), "0 kindle\n4 offer\n", nil, 2, api.ErrState},
		{fire(1), "3 amend\n3 offer\n", nil, 2, api.ErrState},
		// The first line that is wrong counts.
		{fire(1), "1 offer\nx\n", nil, 1, api.ErrState},
		{fire(1), "0 kindles\nx\n", nil, 1, api.ErrNone},
		{fire(1), "0 kindle\n1 offers\nx\n", nil, 2, api.ErrNone},
		{fire(1), "0 kindle\n1 offer\nx\n0 kindle\n", nil, 3, api.ErrForm},
		{fire(1), "0 kindle\n1 offer\n1 offer\nx", nil, 3, api.ErrState},
		// How long a text can be.
		{fire(1), strings.Repeat("x", 1000), nil, 1, api.ErrForm},
		{fire(1), strings.Repeat("x", 1001), nil, 0, api.ErrLong},
		{fire(1), strings.Repeat("\n", 1001), nil, 0, api.ErrLong},
		{fire(1), "0 kindle\n" + strings.Repeat("\n", 991), nil, 2, api.ErrForm},
		{fire(1), "0 kindle\n" + strings.Repeat("\n", 992), nil, 0, api.ErrLong},
		{fire(1), strings.Repeat("0 kindle\n", 1<<16), nil, 0, api.ErrLong},
		{fire(0), strings.Repeat("x", 1001), nil, 0, api.ErrArg},
		{fire(0), "x", nil, 0, api.ErrArg},
		{fire(0), "", nil, 0, api.ErrArg},
	} {
		l, line, e := rite.Read(c.r, c.s)
		if !slices.Equal(l, c.want) || line != c.line || e != c.e || e != api.OK && l != nil {
			t.Errorf("%d %.30q %v %v %v", i, c.s, l, line, e)
		}
	}
}

// modelRead returns the course of a text of which each line is looked at by itself.
func modelRead(r api.Rite, s string) (l []api.Deed, line int, e api.Errno) {
	lines := map[string]api.Deed{}
	names := map[string]bool{}
	for day := range 100 {
		for act, a := range r.Acts {
			lines[told(day)+" "+a.Name] = api.Deed{Day: day, Act: act}
			names[a.Name] = true
		}
	}
	all := strings.Split(s, "\n")
	for i, text := range all[:len(all)-1] {
		d, is := lines[text]
		if !is {
			_, name, _ := strings.Cut(text, " ")
			if _, isDay := lines[strings.TrimSuffix(text, name)+r.Acts[0].Name]; isDay && len(name) >= 1 && len(name) <= 12 && strings.Trim(name, "abcdefghijklmnopqrstuvwxyz") == "" && !names[name] {
				return nil, i + 1, api.ErrNone
			}
			return nil, i + 1, api.ErrForm
		}
		if modelBroken(r, l, d) != 0 {
			return nil, i + 1, api.ErrState
		}
		l = append(l, d)
	}
	if all[len(all)-1] != "" {
		return nil, len(all), api.ErrForm
	}
	return l, 0, api.OK
}

// P9.7, P9.12: texts with a fault are read as in the model, and what is read is what is written.
func TestReadAsModel(t *testing.T) {
	next := pseudo()
	seen := map[api.Errno]int{}
	for range 20000 {
		r := someRite(next, 5, 14)
		l := someCourse(next, r)
		s, e := rite.Write(r, l)
		if e != api.OK {
			t.Fatal(r, l, e)
		}
		if next(3) == 0 {
			s += told(next(12)) + " " + r.Acts[next(len(r.Acts))].Name + "\n"
		}
		for range next(3) {
			at := next(len(s) + 1)
			to := min(len(s), at+next(2))
			s = s[:at] + []string{"", "0", "1", " ", "\n", "a", "bc", "A"}[next(8)] + s[to:]
		}
		want, wantLine, wantE := modelRead(r, s)
		l, line, e := rite.Read(r, s)
		if !slices.Equal(l, want) || line != wantLine || e != wantE {
			t.Errorf("%v %q %v %v %v %v %v %v", r, s, l, line, e, want, wantLine, wantE)
		}
		if text, f := rite.Write(r, l); e == api.OK && (text != s || f != api.OK) {
			t.Errorf("%v %q %q %v", r, s, text, f)
		}
		seen[e]++
	}
	for _, e := range []api.Errno{api.OK, api.ErrForm, api.ErrNone, api.ErrState} {
		if seen[e] < 500 {
			t.Error("only so many texts:", e, seen[e])
		}
	}
}
