package cord

import (
	"math"
	"math/big"
	"regexp"
	"slices"
	"strings"
	"testing"

	"chiti/api"
)

func validOlds() []api.OldFraction {
	return []api.OldFraction{
		{},
		{Pieces: []api.Piece{}},
		{Whole: 1},
		{Whole: 1000},
		{Whole: 1, Pieces: []api.Piece{piece(2)}},
		{Whole: 1, Pieces: []api.Piece{less(1000)}},
		{Pieces: []api.Piece{piece(2, 1000, 2, 1000, 2, 1000)}},
		{Pieces: []api.Piece{piece(1000, 1000, 1000, 1000, 1000, 1000)}},
		{Whole: 1000, Pieces: times(8, less(1000, 1000, 1000, 1000, 1000, 1000))},
		{Pieces: []api.Piece{piece(7), piece(2), less(1000), less(7)}},
	}
}

func invalidOlds() []api.OldFraction {
	return []api.OldFraction{
		{Whole: -1},
		{Whole: 1001},
		{Whole: math.MinInt},
		{Whole: math.MaxInt},
		{Whole: -1, Pieces: []api.Piece{piece(2)}},
		{Pieces: times(9, piece(2))},
		{Pieces: make([]api.Piece, 1<<16)},
		{Pieces: []api.Piece{{}}},
		{Pieces: []api.Piece{{Minus: true, Marks: []int{}}}},
		{Pieces: []api.Piece{piece(2), piece(3), {}}},
		{Pieces: []api.Piece{piece(2, 2, 2, 2, 2, 2, 2)}},
		{Pieces: []api.Piece{piece(3), piece(2, 2, 2, 2, 2, 2, 2), piece(3)}},
		{Pieces: []api.Piece{{Marks: make([]int, 1<<16)}}},
		{Pieces: []api.Piece{piece(1)}},
		{Pieces: []api.Piece{piece(0)}},
		{Pieces: []api.Piece{piece(-2)}},
		{Pieces: []api.Piece{piece(1001)}},
		{Pieces: []api.Piece{piece(2, 3, 1)}},
		{Pieces: []api.Piece{piece(2, 3, 1001)}},
		{Pieces: []api.Piece{piece(2), less(1001)}},
		{Pieces: []api.Piece{piece(math.MinInt)}},
		{Pieces: []api.Piece{piece(math.MaxInt, math.MaxInt)}},
	}
}

// P2.1: what a valid old fraction is.
func TestCheck(t *testing.T) {
	for i, o := range validOlds() {
		if e := Check(o); e != api.OK {
			t.Error("valid", i, o, e)
		}
	}
	for i, o := range invalidOlds() {
		if e := Check(o); e != api.ErrArg {
			t.Error("invalid", i, e)
		}
	}
}

// P2.1: an invalid old fraction is the first error, whatever else is wrong.
func TestInvalidOldsFirst(t *testing.T) {
	for i, o := range invalidOlds() {
		if s, e := Format(o); s != "" || e != api.ErrArg {
			t.Error("Format", i, s, e)
		}
		if x, e := Value(o); !isZeroNumber(x) || e != api.ErrArg {
			t.Error("Value", i, x, e)
		}
		for _, n := range []int{2, 0, 1001} {
			if p, e := Extend(o, n); !isZero(p) || e != api.ErrArg {
				t.Error("Extend", i, n, p, e)
			}
			for _, most := range []int{0, 8, -1, 9} {
				if p, e := Chain(o, n, most); !isZero(p) || e != api.ErrArg {
					t.Error("Chain", i, n, most, p, e)
				}
			}
		}
	}
}

// P2.1, P2.2: the texts of old fractions, in both directions.
func TestTexts(t *testing.T) {
	for s, o := range map[string]api.OldFraction{
		"0":                        {},
		"7":                        {Whole: 7},
		"10":                       {Whole: 10},
		"1000":                     {Whole: 1000},
		"0+1/2":                    {Pieces: []api.Piece{piece(2)}},
		"0-1/1000":                 {Pieces: []api.Piece{less(1000)}},
		"1+1/3+1/3*4-1/3*4*34":     {Whole: 1, Pieces: []api.Piece{piece(3), piece(3, 4), less(3, 4, 34)}},
		"9-1/2-1/2+1/2":            {Whole: 9, Pieces: []api.Piece{less(2), less(2), piece(2)}},
		"0+1/4*3*2":                {Pieces: []api.Piece{piece(4, 3, 2)}},
		"12+1/2*2*2*2*2*2-1/10*11": {Whole: 12, Pieces: []api.Piece{piece(2, 2, 2, 2, 2, 2), less(10, 11)}},
		"1000" + strings.Repeat("-1/1000*1000*1000*1000*1000*1000", 8): {Whole: 1000, Pieces: times(8, less(1000, 1000, 1000, 1000, 1000, 1000))},
	} {
		if u, e := Format(o); u != s || e != api.OK {
			t.Error("Format", s, u, e)
		}
		if p, e := Parse(s); !same(p, o) || e != api.OK {
			t.Error("Parse", s, p, e)
		}
	}
}

// P2.2: what is no text of an old fraction.
func TestNoTexts(t *testing.T) {
	for _, s := range []string{
		"", " ", "x", "+", "-", "/", "*", "1/", "+1/3", "-1/3", "/3", "*3", "1/3", "1*3", "-1", "-1+1/3", "+1", "-0", "00", "01", "01+1/3", "1001", "1001+1/3", "99999999999999999999", "18446744073709551617",
		"1+", "1+1", "1+1/", "1-1/", "1+/3", "1+3", "1+1/3+", "1+1/3*", "1+1/3*+1/4", "1+1/3*4*", "1+1/*3", "1+1/3**4", "1++1/3", "1+-1/3", "1+1//3", "1+1/3/4", "1+1*3", "1+1/3+1/4/",
		"1+1/0", "1+1/1", "1+1/03", "1+1/3*04", "1+1/3*1", "1+1/3*0", "1+1/1001", "1+1/3*1001", "1+1/-3", "1+1/+3", "1+1/18446744073709551619", "1+1/3*18446744073709551619", "1+2/3", "1+11/3", "1+01/3", "1+0/3", "1-2/3",
		"1+1/2*2*2*2*2*2*2", "0" + strings.Repeat("+1/2", 9), "0" + strings.Repeat("-1/2", 9),
		" 1+1/3", "1 +1/3", "1+ 1/3", "1+1/3 ", "1+1/3\n", "1+1/3\x00", "1+1/3* 4", "1+1/3\xff", "\xff", "1\xc3\xa9+1/3", "\u0661", "1\u0661", "1+1/\u0663", "1\u22121/3", "1+1\u20443", "1+1/3\u00d74", "1+1/3x4", "1,5", "1.5", "1e2", "0x1", "1_0", "r2", "1+1/3r2",
	} {
		if o, e := Parse(s); e != api.ErrForm || !isZero(o) {
			t.Errorf("%q: %v %d", s, o, e)
		}
	}
}

// P2.2: too long a text is that first of all; 300 bytes are not too long.
func TestLongTexts(t *testing.T) {
	for _, c := range []string{"1", "x", "+", "-", " ", "0", "\xff", "\x00"} {
		if o, e := Parse(strings.Repeat(c, 300)); e != api.ErrForm || !isZero(o) {
			t.Errorf("300 times %q: %d", c, e)
		}
		if o, e := Parse(strings.Repeat(c, 301)); e != api.ErrLong || !isZero(o) {
			t.Errorf("301 times %q: %d", c, e)
		}
	}
	// Bytes count, not letters.
	if _, e := Parse(strings.Repeat("\u00e9", 151)); e != api.ErrLong {
		t.Error(e)
	}
	for _, s := range []string{"0" + strings.Repeat("+1/2", 75), "0+1/2" + strings.Repeat("*2", 148), strings.Repeat("1", 1<<20)} {
		if o, e := Parse(s); e != api.ErrLong || !isZero(o) {
			t.Error(len(s), e)
		}
	}
}

// P2.2, P2.12: of all short strings those are read, and written alike, that have the form.
func TestAllShortTexts(t *testing.T) {
	number := `(0|[1-9][0-9]*)`
	form := regexp.MustCompile(`^` + number + `([+-]1/([2-9]|[1-9][0-9]+)(\*([2-9]|[1-9][0-9]+))*)*$`)
	read := 0
	for _, s := range allTexts("0126+-/*", 7) {
		o, e := Parse(s)
		switch u, f := Format(o); {
		case e == api.OK && (u != s || f != api.OK || !form.MatchString(s)):
			t.Errorf("%q is read as %v, which is written as %q", s, o, u)
		case e != api.OK && (e != api.ErrForm || !isZero(o)):
			t.Errorf("%q: %v %d", s, o, e)
		case e != api.OK && form.MatchString(s) && withinLimits(s):
			t.Errorf("%q is not read", s)
		}
		if e == api.OK {
			read++
		}
	}
	if read < 1000 {
		t.Error("only so many texts are read:", read)
	}
}

// withinLimits reports whether no integer of a text has more than three digits, so that it is surely within the limits.
func withinLimits(s string) bool { return !regexp.MustCompile(`[0-9]{4}`).MatchString(s) }

func allTexts(letters string, most int) []string {
	l, last := []string{""}, []string{""}
	for range most {
		var longer []string
		for _, s := range last {
			for i := range letters {
				longer = append(longer, s+letters[i:i+1])
			}
		}
		l, last = append(l, longer...), longer
	}
	return l
}

// P2.12: what is written is read as the same old fraction.
func TestTextLaws(t *testing.T) {
	for _, greatest := range []int{9, 100, 1000} {
		for _, o := range append(generated(500, 8, 6, greatest), validOlds()...) {
			s, e := Format(o)
			p, f := Parse(s)
			if e != api.OK || f != api.OK || !same(o, p) {
				t.Error(o, s, p, e, f)
			}
		}
	}
}

// P2.12: what is read without an error, from texts that were changed in one byte, is what is written.
func TestChangedTexts(t *testing.T) {
	for _, o := range generated(40, 4, 3, 1000) {
		s, _ := Format(o)
		for i := range s {
			for c := range 256 {
				changed := s[:i] + string([]byte{byte(c)}) + s[i+1:]
				p, e := Parse(changed)
				if e != api.OK {
					continue
				}
				if again, f := Format(p); again != changed || f != api.OK {
					t.Errorf("%q is read, and written as %q", changed, again)
				}
			}
		}
	}
}

// P2.3: values, as texts or as errors.
func TestValue(t *testing.T) {
	for _, c := range []struct {
		o, x string
		e    api.Errno
	}{
		{"0", "0", api.OK},
		{"1000", "1000", api.OK},
		{"1+1/3", "4/3", api.OK},
		{"1+1/3+1/3*4", "17/12", api.OK},
		{"1+1/3+1/3*4-1/3*4*34", "577/408", api.OK},
		{"0-1/2", "-1/2", api.OK},
		{"0-1/2-1/2-1/2", "-3/2", api.OK},
		{"0+1/2+1/2", "1", api.OK},
		{"1-1/8+1/8*29-1/8*29*6+1/8*29*6*8", "9785/11136", api.OK},
		{"0+1/2-1/2", "0", api.OK},
		// Marks that make 100000, and more.
		{"0+1/1000*100", "1/100000", api.OK},
		{"0-1/10*10*10*10*10", "-1/100000", api.OK},
		{"0+1/1000*101", "", api.ErrOver},
		{"0+1/1000*100-1/1000*100*2", "", api.ErrOver},
		{"0+1/1000*1000*1000*1000*1000*1000", "", api.ErrOver},
		{"0+1/2-1/1000*1000*1000*1000*1000*1000", "", api.ErrOver},
		// Sums that are too great on the way are refused, though the last one would not be.
		{"0+1/317+1/331", "", api.ErrOver},
		{"0+1/317+1/331-1/331", "", api.ErrOver},
		{"0+1/317-1/317+1/331", "1/331", api.OK},
		{"0+1/313-1/317", "4/99221", api.OK},
		{"1000+1/100", "", api.ErrOver},
		{"1000-1/100", "99999/100", api.OK},
		{"1000-1/1000", "", api.ErrOver},
		{"999+1/100+1/100", "49951/50", api.OK},
		{"1000+1/101", "", api.ErrOver},
		{"1000+1/99", "99001/99", api.OK},
	} {
		x, e := Value(old(t, c.o))
		if told(x) != c.x || e != c.e || e != api.OK && !isZeroNumber(x) {
			t.Error(c.o, told(x), e)
		}
	}
}

// P2.3: the value is the sum, and is refused just if a product of marks or a partial sum is too great.
func TestValueOfGenerated(t *testing.T) {
	fine, over := 0, 0
	for _, sizes := range [][3]int{{8, 2, 6}, {5, 2, 30}, {3, 1, 400}, {2, 6, 20}} {
		for _, o := range generated(1000, sizes[0], sizes[1], sizes[2]) {
			want, ok := exact(o)
			x, e := Value(o)
			switch {
			case ok && (e != api.OK || rational(t, x).Cmp(want) != 0 || !isNumber(x)):
				t.Error(o, x, e, want)
			case !ok && (e != api.ErrOver || !isZeroNumber(x)):
				t.Error(o, x, e, "too great")
			case ok:
				fine++
			default:
				over++
			}
		}
	}
	if fine < 500 || over < 500 {
		t.Error("only so many were tried:", fine, over)
	}
}

// P2.3: the order of pieces decides only whether they are refused.
func TestValueInAnyOrder(t *testing.T) {
	for _, o := range generated(300, 5, 2, 9) {
		p := copied(o)
		slices.Reverse(p.Pieces)
		x, e := Value(o)
		y, f := Value(p)
		if e == api.OK && f == api.OK && !sameNumber(x, y) {
			t.Error(o, x, y)
		}
		if v, ok := exact(o); ok && v.Cmp(new(big.Rat)) == 0 && told(x) != "0" {
			t.Error(o, x)
		}
	}
}
