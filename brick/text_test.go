package brick_test

import (
	"strings"
	"testing"

	"chiti/api"
	"chiti/brick"
)

func kindTexts() map[string]string {
	return map[string]string{"square": "f", "oblong": "ff", "great": "ff/ff", "half": "3", "quarter": "1", "triangle": "6c", "diamond": "6c/39", "bent": "f0/ff"}
}

// P5.6: Kind returns the shapes of the kinds by their names.
func TestKind(t *testing.T) {
	for name, text := range kindTexts() {
		if s, e := brick.Kind(name); !same(s, shape(t, text)) || e != api.OK {
			t.Error(name, s, e)
		}
		for _, wrong := range []string{strings.ToUpper(name), name + "s", name + " ", " " + name, name[1:], name[:len(name)-1], text} {
			if s, e := brick.Kind(wrong); len(s) != 0 || e != api.ErrNone {
				t.Error(wrong, s, e)
			}
		}
	}
	for _, wrong := range []string{"", "\x00", "brick", "quarter\xff", strings.Repeat("square", 1<<16)} {
		if s, e := brick.Kind(wrong); len(s) != 0 || e != api.ErrNone {
			t.Error(len(wrong), s, e)
		}
	}
}

// P5.6: Name returns the kind with which a shape is the same, wherever and however it lies.
func TestName(t *testing.T) {
	for name, text := range kindTexts() {
		for _, p := range eight() {
			for _, at := range [][2]int{{0, 0}, {14, 3}, {7, 14}} {
				p.X, p.Y = at[0], at[1]
				s, _ := modelPut(shape(t, text), p)
				if got, e := brick.Name(s); got != name || e != api.OK {
					t.Error(name, p, got, e)
				}
			}
		}
	}
	for _, text := range []string{"fff", "5", "7", "f1", "f0f", "69", "36", "6c/3f", "fc/39", "f0/0f", "ff/fe", "28", "ff/f0/f0", "ffff"} {
		if got, e := brick.Name(shape(t, text)); got != "" || e != api.ErrNone {
			t.Error(text, got, e)
		}
	}
	if got, e := brick.Name(full(400)); got != "" || e != api.ErrNone {
		t.Error(got, e)
	}
}

func TestNameLikeModel(t *testing.T) {
	next := pseudo()
	for i := range 2000 {
		s := some(next, next(3), next(3), 1+next(2), 1+next(2), 1+i%8)
		want, wantError := "", api.ErrNone
		for name, text := range kindTexts() {
			if modelSame(s, shape(t, text)) {
				want, wantError = name, api.OK
			}
		}
		if got, e := brick.Name(s); got != want || e != wantError {
			t.Error(s, got, e)
		}
	}
}

// P5.7: the text has the rows from the north to the south, up to the greatest column of the shape.
func TestFormat(t *testing.T) {
	for _, c := range []struct {
		s    []api.Quarter
		want string
		e    api.Errno
	}{
		{[]api.Quarter{quarter(0, 0, 0)}, "1", api.OK}, {[]api.Quarter{quarter(0, 0, 1)}, "2", api.OK}, {[]api.Quarter{quarter(0, 0, 2)}, "4", api.OK}, {[]api.Quarter{quarter(0, 0, 3)}, "8", api.OK},
		{full(4), "f", api.OK}, {full(5), "f1", api.OK}, {[]api.Quarter{quarter(1, 0, 0), quarter(0, 1, 1)}, "20/01", api.OK}, {[]api.Quarter{quarter(0, 0, 0), quarter(2, 2, 3)}, "008/000/100", api.OK},
		{[]api.Quarter{quarter(1, 0, 0)}, "", api.ErrForm}, {[]api.Quarter{quarter(0, 1, 0)}, "", api.ErrForm}, {[]api.Quarter{quarter(15, 15, 0)}, "", api.ErrForm}, {[]api.Quarter{quarter(1, 0, 0), quarter(1, 1, 0)}, "", api.ErrForm}, {[]api.Quarter{quarter(0, 1, 0), quarter(1, 1, 0)}, "", api.ErrForm},
		{full(400), strings.Repeat("f", 4) + strings.Repeat("0", 12) + strings.Repeat("/ffffffffffffffff", 6), api.OK},
		{[]api.Quarter{quarter(15, 0, 0), quarter(0, 15, 0)}, "1000000000000000" + strings.Repeat("/0000000000000000", 14) + "/0000000000000001", api.OK},
	} {
		if text, e := brick.Format(c.s); text != c.want || e != c.e {
			t.Error(c.s, text, e)
		}
	}
	for sum := 1; sum < 16; sum++ {
		var s []api.Quarter
		for side := range 4 {
			if sum>>side%2 == 1 {
				s = append(s, quarter(0, 0, side))
			}
		}
		want := "0123456789abcdef"[sum : sum+1]
		if text, e := brick.Format(s); text != want || e != api.OK {
			t.Error(sum, text, e)
		}
		if got, e := brick.Parse(want); !same(got, s) || e != api.OK {
			t.Error(sum, got, e)
		}
	}
}

// P5.7: only what is the text of a shape is read.
func TestParse(t *testing.T) {
	row := strings.Repeat("f", 16)
	rows := func(row string, count int) string { return strings.Repeat(row+"/", count-1) + row }
	for _, c := range []struct {
		text string
		e    api.Errno
	}{
		{"f", api.OK}, {"f0/ff", api.OK}, {"0a0/505/0a0", api.OK}, {"01/10", api.OK}, {row, api.OK}, {rows("1", 16), api.OK}, {rows("8000000000000001", 16), api.OK}, {rows(row, 6), api.OK}, {rows(row, 6) + "/ffff000000000000", api.OK},
		{rows(row, 6) + "/ffff100000000000", api.ErrForm}, {rows(row, 7), api.ErrForm}, {rows(row, 16), api.ErrForm},
		{"", api.ErrForm}, {"0", api.ErrForm}, {"/", api.ErrForm}, {"00/00", api.ErrForm}, {rows("0000000000000000", 16), api.ErrForm},
		{"f0", api.ErrForm}, {"0f", api.ErrForm}, {"f/0", api.ErrForm}, {"0/f", api.ErrForm}, {"f0/f0", api.ErrForm}, {"0f/0f", api.ErrForm}, {"0f0/f00", api.ErrForm}, {"00/ff", api.ErrForm},
		{"F", api.ErrForm}, {"g", api.ErrForm}, {"fg", api.ErrForm}, {"gf", api.ErrForm}, {"f g", api.ErrForm}, {" f", api.ErrForm}, {"f ", api.ErrForm}, {"f\n", api.ErrForm}, {"-1", api.ErrForm}, {"\xff", api.ErrForm}, {"f\x00", api.ErrForm}, {"٣", api.ErrForm},
		{"f/", api.ErrForm}, {"/f", api.ErrForm}, {"f//f", api.ErrForm}, {"f/ff", api.ErrForm}, {"ff/f", api.ErrForm}, {"f/f/ff", api.ErrForm},
		{row + "f", api.ErrForm}, {row + "0", api.ErrForm}, {rows("1", 17), api.ErrForm}, {rows("1", 16) + "/0", api.ErrForm}, {"0/" + rows("1", 16), api.ErrForm}, {rows("1", 16) + "/", api.ErrForm}, {"/" + rows("1", 16), api.ErrForm}, {rows("8000000000000001", 16) + "/", api.ErrForm},
		{strings.Repeat("f", 272), api.ErrForm}, {strings.Repeat("/", 272), api.ErrForm}, {strings.Repeat("f", 273), api.ErrLong}, {strings.Repeat("/", 273), api.ErrLong}, {strings.Repeat("?", 1<<20), api.ErrLong}, {"/" + rows("8000000000000001", 16), api.ErrForm}, {rows("8000000000000001", 16) + "/0", api.ErrLong},
	} {
		s, e := brick.Parse(c.text)
		want, ok := modelRead(c.text)
		if e != c.e || !same(s, want) && e == api.OK || e != api.OK && len(s) != 0 || ok != (e == api.OK) {
			t.Error(c.text, s, e)
		}
	}
}

// P5.7: texts and shapes are what the model reads and writes, for all short strings of some letters.
func TestParseLikeModel(t *testing.T) {
	letters := "01fg/"
	count := 0
	for length := range 8 {
		total := 1
		for range length {
			total *= len(letters)
		}
		for n := range total {
			text := ""
			for range length {
				text += letters[n%len(letters) : n%len(letters)+1]
				n /= len(letters)
			}
			s, e := brick.Parse(text)
			want, ok := modelRead(text)
			switch {
			case ok && (e != api.OK || !same(s, want)):
				t.Error(text, s, e)
			case !ok && (e != api.ErrForm || len(s) != 0):
				t.Error(text, s, e)
			case ok:
				count++
			}
		}
	}
	if count < 1000 {
		t.Error("only so many texts:", count)
	}
	next := pseudo()
	for i := range 2000 {
		s := someShape(next, 1+i%16)
		text, e := brick.Format(s)
		if s[0].Y != 0 || !same(s, shapeInCorner(s)) {
			if text != "" || e != api.ErrForm {
				t.Error(s, text, e)
			}
			s = shapeInCorner(s)
			text, e = brick.Format(s)
		}
		if text != modelText(s) || e != api.OK {
			t.Error(s, text, e)
		}
	}
}

func shapeInCorner(s []api.Quarter) []api.Quarter {
	put, _ := modelPut(s, api.Place{})
	return put
}
