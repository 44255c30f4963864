package surd

import (
	"regexp"
	"strings"
	"testing"

	"chiti/api"
)

// P1.6: the texts of numbers, in both directions.
func TestTexts(t *testing.T) {
	for _, c := range []struct {
		s string
		x api.Number
	}{
		{"0", api.Number{Den: 1}},
		{"1", api.Number{Den: 1, Terms: terms(1, 1)}},
		{"-1", api.Number{Den: 1, Terms: terms(-1, 1)}},
		{"7/3", api.Number{Den: 3, Terms: terms(7, 1)}},
		{"-7/3", api.Number{Den: 3, Terms: terms(-7, 1)}},
		{"1/100000", api.Number{Den: 100000, Terms: terms(1, 1)}},
		{"r2", api.Number{Den: 1, Terms: terms(1, 2)}},
		{"-r2", api.Number{Den: 1, Terms: terms(-1, 2)}},
		{"10r10", api.Number{Den: 1, Terms: terms(10, 10)}},
		{"11r2", api.Number{Den: 1, Terms: terms(11, 2)}},
		{"-21r2", api.Number{Den: 1, Terms: terms(-21, 2)}},
		{"r2/2", api.Number{Den: 2, Terms: terms(1, 2)}},
		{"-3r5/4", api.Number{Den: 4, Terms: terms(-3, 5)}},
		{"1+r2", api.Number{Den: 1, Terms: terms(1, 1, 1, 2)}},
		{"-1-r2", api.Number{Den: 1, Terms: terms(-1, 1, -1, 2)}},
		{"(2+2r2)/3", api.Number{Den: 3, Terms: terms(2, 1, 2, 2)}},
		{"(-1-r2)/2", api.Number{Den: 2, Terms: terms(-1, 1, -1, 2)}},
		{"1+r2-r3+2r5", api.Number{Den: 1, Terms: terms(1, 1, 1, 2, -1, 3, 2, 5)}},
		{"(-100000r991-99999r994-99998r995-99997r997)/99999", api.Number{Den: 99999, Terms: terms(-100000, 991, -99999, 994, -99998, 995, -99997, 997)}},
	} {
		if s, e := Format(c.x); s != c.s || e != api.OK {
			t.Error("Format", c.s, s, e)
		}
		if x, e := Parse(c.s); !same(x, c.x) || e != api.OK {
			t.Error("Parse", c.s, x, e)
		}
	}
}

// P1.6: what is no text of a number.
func TestNoTexts(t *testing.T) {
	for _, s := range []string{
		"", " ", "r4", "2/4", "+1", "1r2", "-1r2", "(r2)/3", "r2+1", "-0", "00", "0/1", "0/2", "0r2", "r0", "r1", "5r1", "r", "-", "+", "-r", "/", "1/", "/2", "()/2",
		"01", "-01", "r02", "1/02", "1/1", "1/0", "1/-2", "1/+2", "-1/-2", "+r2", "1++r2", "1+-r2", "1--r2", "1+", "1-", "1+r2+", "1+0r2", "1+0", "0+r2", "1+1", "r2+r2", "r2-r2", "r3+r2",
		"(1+r2)", "(1+r2)/1", "1+r2/2", "((1+r2)/2", "((1+r2))/2", "(1+r2)/2)", "(1+r2/2", "1+r2)/2", "(2+2r2)/4", "(1+r2)/2/2", "1/2/3", "(1)/2", "(+1+r2)/2", "(0)/2",
		"100001", "-100001", "1/100001", "r1001", "r1000", "r8", "100001r2", "99999999999999999999", "18446744073709551617", "r18446744073709551618", "1/18446744073709551618",
		"1 ", " 1", "1 +r2", "1+ r2", "1+R2", "r2r3", "2*r2", "1.5", "1,5", "1e3", "0x1", "1_0", "\u0661", "r\u0662", "\u22121", "1\n", "1\x00", "\xff", "r-2", "r+2", "1r", "nan",
		"1+r2+r3+r5+r6", "r2+r3+r5+r6+r7",
	} {
		if x, e := Parse(s); e != api.ErrForm || !isZero(x) {
			t.Errorf("%q: %v %d", s, x, e)
		}
	}
}

// P1.6: too long a text is that first of all; 64 bytes are not too long.
func TestLongTexts(t *testing.T) {
	for _, c := range []string{"1", "r", "(", "x", "-", "+", " ", "0", "\x00"} {
		if x, e := Parse(strings.Repeat(c, 64)); e != api.ErrForm || !isZero(x) {
			t.Errorf("64 times %q: %d", c, e)
		}
		if x, e := Parse(strings.Repeat(c, 65)); e != api.ErrLong || !isZero(x) {
			t.Errorf("65 times %q: %d", c, e)
		}
	}
	if _, e := Parse(strings.Repeat("1", 1<<20)); e != api.ErrLong {
		t.Error(e)
	}
}

// P1.6, P1.11: of all short strings, those are read that have the form, lowest terms and ascending roots without squares.
func TestAllShortTexts(t *testing.T) {
	form := regexp.MustCompile(`^(0|TERM|TERM/DEN|SUM|\(SUM\)/DEN)$`)
	grammar := form.String()
	term := `-?([1-9][0-9]*|([2-9]|[1-9][0-9]+)?r([2-9]|[1-9][0-9]+))`
	more := `[+-](([2-9]|[1-9][0-9]+)?r([2-9]|[1-9][0-9]+))`
	grammar = strings.ReplaceAll(grammar, "SUM", term+"("+more+")+")
	grammar = strings.ReplaceAll(grammar, "TERM", term)
	grammar = strings.ReplaceAll(grammar, "DEN", `([2-9]|[1-9][0-9]+)`)
	form = regexp.MustCompile(grammar)
	read := 0
	for _, s := range allTexts("0124r+-/()", 5) {
		x, e := Parse(s)
		if e == api.OK {
			read++
			if again, f := Format(x); again != s || f != api.OK || !form.MatchString(s) {
				t.Errorf("%q is read as %v, which is written as %q", s, x, again)
			}
		} else if e != api.ErrForm || !isZero(x) {
			t.Errorf("%q: %v %d", s, x, e)
		} else if form.MatchString(s) && inLowestTerms(s) {
			t.Errorf("%q is not read", s)
		}
	}
	if read < 1000 {
		t.Error("only so many texts are read:", read)
	}
}

func allTexts(letters string, most int) []string {
	l, last := []string{""}, []string{""}
	for range most {
		var longer []string
		for _, s := range last {
			for i := range letters {
				longer = append(longer, s+letters[i:i+1])
			}
		}
		l, last = append(l, longer...), longer
	}
	return l
}

// inLowestTerms reports, for texts with the form, whether roots ascend and have no squares, and no number divides all.
func inLowestTerms(s string) bool {
	coefs := regexp.MustCompile(`(\d*)(?:r(\d+))?`)
	body, den, _ := strings.Cut(s, "/")
	g, last := atoi(den, 0), 0
	for _, m := range coefs.FindAllStringSubmatch(body, -1) {
		if m[0] == "" {
			continue
		}
		coef, root := atoi(m[1], 1), atoi(m[2], 1)
		if root <= last || root%4 == 0 || root%9 == 0 || root%25 == 0 || root%49 == 0 || root%121 == 0 || root > api.MaxRoot {
			return false
		}
		g, last = gcd(g, coef), root
	}
	return den == "" || g == 1
}

func atoi(s string, otherwise int) int {
	if s == "" {
		return otherwise
	}
	n := 0
	for _, c := range s {
		n = 10*n + int(c-'0')
	}
	return n
}
