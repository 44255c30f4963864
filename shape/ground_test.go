package shape_test

import (
	"slices"
	"testing"

	"chiti/api"
	"chiti/brick"
	"chiti/shape"
)

// eight returns the places of some of the eight ways to turn: 0 to 3 without a mirror, 4 to 7 with one.
func eight(numbers ...int) []api.Place {
	var l []api.Place
	for _, n := range numbers {
		l = append(l, api.Place{Mirror: n >= 4, Turns: n % 4})
	}
	return l
}

// P6.6: symmetries of shapes that are lines, corners, wheels and none.
func TestSymmetries(t *testing.T) {
	for _, c := range []struct {
		s    string
		want []api.Place
	}{
		{"f", eight(0, 1, 2, 3, 4, 5, 6, 7)},
		{"6c/39", eight(0, 1, 2, 3, 4, 5, 6, 7)},
		{"fff/f0f/fff", eight(0, 1, 2, 3, 4, 5, 6, 7)},
		{"0f0/fff/0f0", eight(0, 1, 2, 3, 4, 5, 6, 7)},
		{"f0f/000/f0f", eight(0, 1, 2, 3, 4, 5, 6, 7)},
		{"1", eight(0, 4)},
		{"4", eight(0, 4)},
		{"2", eight(0, 6)},
		{"8", eight(0, 6)},
		{"b", eight(0, 4)},
		{"7", eight(0, 6)},
		{"3", eight(0, 7)},
		{"c", eight(0, 7)},
		{"6", eight(0, 5)},
		{"9", eight(0, 5)},
		{"5", eight(0, 2, 4, 6)},
		{"a", eight(0, 2, 4, 6)},
		{"ff", eight(0, 2, 4, 6)},
		{"f/f", eight(0, 2, 4, 6)},
		{"0f/f0", eight(0, 2, 5, 7)},
		{"24/18", eight(0, 1, 2, 3)},
		{"48/21", eight(0, 1, 2, 3)},
		{"ff0/0ff", eight(0, 2)},
		{"36", eight(0)},
		{"33", eight(0)},
		{"fff0/000f", eight(0)},
		{"f0/ff", eight(0, 7)},
		{"0f/ff", eight(0, 5)},
	} {
		for _, p := range []api.Place{{}, {X: 3, Y: 9}, {X: 12, Y: 1}} {
			s, e := brick.Put(ofText(t, c.s), p)
			if e != api.OK {
				t.Fatal(c.s, p, e)
			}
			if l, e := shape.Symmetries(s); !slices.Equal(l, c.want) || e != api.OK {
				t.Error(c.s, p, l, e)
			}
		}
	}
}

// P6.6: symmetries are those of triangles in the plane, also of shapes that were made regular.
func TestSymmetriesLikeModel(t *testing.T) {
	next := pseudo()
	seen := map[int]int{}
	for i := range 2000 {
		s := someShape(next, 1+i%16)
		switch i % 4 {
		case 0:
			s = some(next, 0, 0, 1+i%3, 1+i%2, 4)
		case 1:
			s = regular(s)
		}
		l, e := shape.Symmetries(s)
		if want := modelSymmetries(s); !slices.Equal(l, want) || e != api.OK {
			t.Error(s, l, want, e)
		}
		seen[len(l)]++
	}
	for _, count := range []int{1, 2, 4, 8} {
		if seen[count] < 5 {
			t.Error("seldom tried", count, seen[count])
		}
	}
}

func whole(x, y int) []api.Quarter {
	return []api.Quarter{quarter(x, y, 0), quarter(x, y, 1), quarter(x, y, 2), quarter(x, y, 3)}
}

// P6.7: what is enclosed, and what is open at a corner, at the border of the shape, or at that of the grid.
func TestHoles(t *testing.T) {
	for _, c := range []struct {
		s    string
		want [][]api.Quarter
	}{
		{"f", nil},
		{"1", nil},
		{"7", nil},
		{"e", nil},
		{"d", nil},
		{"b", nil},
		{"5", nil},
		{"fff/f0f/fff", [][]api.Quarter{whole(1, 1)}},
		{"fff/f0f/f0f", nil},
		{"fff/f0f/ff0", [][]api.Quarter{whole(1, 1)}},
		{"0f0/f0f/0f0", [][]api.Quarter{whole(1, 1)}},
		{"0f0/f0f/0b0", [][]api.Quarter{whole(1, 1)}},
		{"0f0/f0f/010", [][]api.Quarter{whole(1, 1)}},
		{"0f0/f0f/0e0", [][]api.Quarter{{quarter(1, 0, 0), quarter(1, 1, 0), quarter(1, 1, 1), quarter(1, 1, 2), quarter(1, 1, 3)}}},
		{"0f0/f0f/0a0", [][]api.Quarter{{quarter(1, 0, 0), quarter(1, 1, 0), quarter(1, 1, 1), quarter(1, 1, 2), quarter(1, 1, 3)}}},
		{"0f0/f0f/080", nil},
		{"f7f", [][]api.Quarter{{quarter(1, 0, 3)}}},
		{"fbf", nil},
		{"fff/f5f/fff", [][]api.Quarter{{quarter(1, 1, 1)}, {quarter(1, 1, 3)}}},
		{"fff/faf/fff", [][]api.Quarter{{quarter(1, 1, 0)}, {quarter(1, 1, 2)}}},
		{"fff/f9f/fff", [][]api.Quarter{{quarter(1, 1, 1), quarter(1, 1, 2)}}},
		{"fff/f6f/fff", [][]api.Quarter{{quarter(1, 1, 0), quarter(1, 1, 3)}}},
		{"040/208/010", [][]api.Quarter{whole(1, 1)}},
		{"22/88", nil},
		{"7d", nil},
		{"df", [][]api.Quarter{{quarter(0, 0, 1)}}},
		{"d7", [][]api.Quarter{{quarter(0, 0, 1), quarter(1, 0, 3)}}},
		{"fffff/f0f0f/fffff", [][]api.Quarter{whole(1, 1), whole(3, 1)}},
		{"fff/f0f/fff/f0f/fff", [][]api.Quarter{whole(1, 1), whole(1, 3)}},
		{"ffff/f00f/ffff", [][]api.Quarter{append(whole(1, 1), whole(2, 1)...)}},
		{"ffff/ff0f/f0ff/ffff", [][]api.Quarter{whole(1, 1), whole(2, 2)}},
		// The room around the cell in the middle is open for no quarter, and the hole in it is another one.
		{"fffffff/f00000f/f0fff0f/f0f0f0f/f0fff0f/f00000f/fffffff", [][]api.Quarter{ringOf(1, 5), whole(3, 3)}},
	} {
		if l, e := shape.Holes(ofText(t, c.s)); !same(l, c.want) || e != api.OK {
			t.Error(c.s, l, e)
		}
	}
}

// ringOf returns the cells with a column or a row that is the first or the last of a square.
func ringOf(first, last int) []api.Quarter {
	var s []api.Quarter
	for y := first; y <= last; y++ {
		for x := first; x <= last; x++ {
			if x == first || x == last || y == first || y == last {
				s = append(s, whole(x, y)...)
			}
		}
	}
	return s
}

// P6.7: at the margins of the grid it is open, and a hole may have more quarters than a shape.
func TestHolesAtMargins(t *testing.T) {
	var inner []api.Quarter
	for y := 1; y < 15; y++ {
		for x := 1; x < 15; x++ {
			inner = append(inner, whole(x, y)...)
		}
	}
	for _, c := range []struct {
		s    []api.Quarter
		want [][]api.Quarter
	}{
		{ringOf(0, 15), [][]api.Quarter{inner}},
		{full(400), nil},
		{built(t, added(0, 7, 16, 1)), nil},
		{built(t, added(7, 0, 1, 16), added(0, 7, 7, 1), added(8, 7, 8, 1)), nil},
		{built(t, added(1, 0, 1, 1), added(0, 1, 1, 1)), nil},
		{built(t, added(14, 15, 1, 1), added(15, 14, 1, 1)), nil},
		{[]api.Quarter{quarter(0, 0, 0), quarter(0, 0, 1), quarter(0, 0, 3)}, nil},
		{[]api.Quarter{quarter(0, 0, 0), quarter(0, 0, 1), quarter(0, 0, 2)}, nil},
		{[]api.Quarter{quarter(15, 15, 0), quarter(15, 15, 2), quarter(15, 15, 3)}, nil},
		{built(t, added(0, 0, 3, 3), cut(1, 1, 1, 1)), [][]api.Quarter{whole(1, 1)}},
		{built(t, added(13, 13, 3, 3), cut(14, 14, 1, 1)), [][]api.Quarter{whole(14, 14)}},
		{built(t, added(0, 0, 3, 3), cut(0, 1, 1, 1)), nil},
		{built(t, added(0, 0, 3, 3), clip(0, 1, 1, 1)), [][]api.Quarter{{quarter(0, 1, 1), quarter(0, 1, 2)}}},
		{built(t, added(0, 0, 3, 3), clip(0, 1, 1, 2)), nil},
	} {
		if l, e := shape.Holes(c.s); !same(l, c.want) || e != api.OK {
			t.Error(c.s, l, e)
		}
	}
	// All quarters but one of each second cell: the most holes.
	var s []api.Quarter
	for y := range 11 {
		for x := range 11 {
			for side := range 4 {
				if (x+y)%2 == 0 || side != 0 {
					s = append(s, quarter(x, y, side))
				}
			}
		}
	}
	s = s[:400]
	if l, e := shape.Holes(s); len(l) < 40 || !same(l, modelHoles(s)) || e != api.OK {
		t.Error(len(l), l, e)
	}
}

// P6.7: holes are the rooms in the plane that are not open.
func TestHolesLikeModel(t *testing.T) {
	next := pseudo()
	holes := 0
	for i := range 300 {
		w, h := 1+next(12), 1+next(8)
		s := some(next, next(17-w), next(17-h), w, h, 4+i%4)
		l, e := shape.Holes(s)
		if want := modelHoles(s); !same(l, want) || e != api.OK {
			t.Error(s, l, want, e)
		}
		holes += len(l)
	}
	if holes < 300 {
		t.Error("only so many holes:", holes)
	}
}

// P6.8: shapes that are made greater, as texts.
func TestEnlarge(t *testing.T) {
	for _, c := range []struct {
		s     string
		times int
		want  string
	}{
		{"f", 1, "f"}, {"f", 2, "ff/ff"}, {"f", 3, "fff/fff/fff"}, {"f", 4, "ffff/ffff/ffff/ffff"},
		{"1", 1, "1"}, {"2", 1, "2"}, {"4", 1, "4"}, {"8", 1, "8"}, {"6c/39", 1, "6c/39"},
		{"3", 2, "3f/03"}, {"6", 2, "06/6f"}, {"c", 2, "c0/fc"}, {"9", 2, "f9/90"},
		{"5", 2, "39/6c"}, {"6c", 2, "06c0/6ffc"}, {"f0/0f", 2, "ff00/ff00/00ff/00ff"},
		{"7", 3, "3ff/07f/6ff"}, {"d", 3, "ff9/fd0/ffc"},
		{"6c/39", 2, "06c0/6ffc/3ff9/0390"},
		{"3", 4, "3fff/03ff/003f/0003"},
	} {
		s, e := shape.Enlarge(ofText(t, c.s), c.times)
		if text, f := brick.Format(s); text != c.want || e != api.OK || f != api.OK {
			t.Error(c.s, c.times, text, e, f)
		}
	}
}

// P6.8: where the parts of quarters are: what was put in the corner is enlarged from there on, and is not put there once more.
func TestEnlargedQuarters(t *testing.T) {
	for _, c := range []struct {
		s     []api.Quarter
		times int
		want  []api.Quarter
	}{
		{[]api.Quarter{quarter(9, 9, 0)}, 2, []api.Quarter{quarter(0, 1, 0), quarter(0, 1, 1), quarter(1, 1, 0), quarter(1, 1, 3)}},
		{[]api.Quarter{quarter(9, 9, 1)}, 2, []api.Quarter{quarter(1, 0, 0), quarter(1, 0, 1), quarter(1, 1, 1), quarter(1, 1, 2)}},
		{[]api.Quarter{quarter(9, 9, 2)}, 2, []api.Quarter{quarter(0, 0, 1), quarter(0, 0, 2), quarter(1, 0, 2), quarter(1, 0, 3)}},
		{[]api.Quarter{quarter(9, 9, 3)}, 2, []api.Quarter{quarter(0, 0, 0), quarter(0, 0, 3), quarter(0, 1, 2), quarter(0, 1, 3)}},
		{[]api.Quarter{quarter(0, 0, 1)}, 3, []api.Quarter{quarter(2, 0, 0), quarter(2, 0, 1), quarter(1, 1, 1), quarter(2, 1, 0), quarter(2, 1, 1), quarter(2, 1, 2), quarter(2, 1, 3), quarter(2, 2, 1), quarter(2, 2, 2)}},
		{[]api.Quarter{quarter(15, 15, 2)}, 1, []api.Quarter{quarter(0, 0, 2)}},
		{[]api.Quarter{quarter(3, 4, 0), quarter(5, 4, 3)}, 1, []api.Quarter{quarter(0, 0, 0), quarter(2, 0, 3)}},
	} {
		if s, e := shape.Enlarge(c.s, c.times); !same(s, c.want) || e != api.OK {
			t.Error(c.s, c.times, s, e)
		}
	}
}

// P6.8: what is refused, and in which order.
func TestEnlargeErrors(t *testing.T) {
	row := "ffffffffffffffff"
	for _, c := range []struct {
		s     string
		times int
		e     api.Errno
	}{
		{"f", 0, api.ErrRange}, {"f", -1, api.ErrRange}, {"f", 5, api.ErrRange}, {row, 5, api.ErrRange}, {rows(row, 6), 5, api.ErrRange}, {rows(row, 6), 0, api.ErrRange},
		{row, 1, api.OK}, {row, 2, api.ErrRange}, {rows("f", 16), 2, api.ErrRange}, {"ffffffff", 2, api.OK}, {"ffffffff1", 2, api.ErrRange}, {rows("f", 8), 2, api.OK}, {rows("f", 9), 2, api.ErrRange},
		{"fffff", 3, api.OK}, {"fffff1", 3, api.ErrRange}, {"fffff8", 3, api.ErrRange}, {rows("f", 5), 3, api.OK}, {rows("1", 6), 3, api.ErrRange}, {rows("4", 6), 3, api.ErrRange},
		{"ffff", 4, api.OK}, {"fff01", 4, api.ErrRange}, {"fff08", 4, api.ErrRange}, {rows("f", 4), 4, api.OK}, {rows("1", 5), 4, api.ErrRange},
		{rows("fffff", 5), 2, api.OK}, {rows("fffff", 5) + "/10000", 2, api.ErrLong}, {rows(row, 6), 1, api.OK}, {rows(row, 6), 2, api.ErrLong}, {row + "/" + row, 2, api.ErrLong},
		{"ffffffffffff/ffffffffffff", 2, api.ErrRange}, {"fff/fff/fff", 3, api.OK}, {"fff/fff/fff", 4, api.ErrLong}, {"ffff/ffff/fff7", 3, api.ErrLong}, {"ffff/ffff/fff0", 3, api.OK}, {"fff/fff/100", 4, api.OK}, {"fff/fff/300", 4, api.ErrLong},
	} {
		s, e := shape.Enlarge(ofText(t, c.s), c.times)
		if e != c.e || e != api.OK && len(s) != 0 || e == api.OK && len(s) != len(ofText(t, c.s))*c.times*c.times {
			t.Error(c.s, c.times, len(s), e)
		}
	}
	for _, times := range extremes() {
		s, e := shape.Enlarge(full(400), times)
		want := api.ErrRange
		switch times {
		case 1:
			want = api.OK
		case 2, 3, 4:
			want = api.ErrLong
		}
		if e != want || (e == api.OK) != (len(s) > 0) {
			t.Error(times, len(s), e)
		}
		// Of a list that is no shape this is told first.
		if s, e := shape.Enlarge(nil, times); len(s) != 0 || e != api.ErrArg {
			t.Error(times, s, e)
		}
		if s, e := shape.Enlarge(full(401), times); len(s) != 0 || e != api.ErrLong {
			t.Error(times, s, e)
		}
	}
}

// P6.8: the enlarged shape has the quarters whose points lie in it.
func TestEnlargeLikeModel(t *testing.T) {
	next := pseudo()
	seen := map[api.Errno]int{}
	for i := range 1200 {
		times := 1 + i%4
		s := someShape(next, min(16, 2+16/times))
		want := modelEnlarge(s, times)
		isOff := func(q api.Quarter) bool { return !inGrid(q) }
		wantError := api.OK
		switch {
		case len(want) > 400:
			want, wantError = nil, api.ErrLong
		case slices.ContainsFunc(want, isOff):
			want, wantError = nil, api.ErrRange
		}
		if large, e := shape.Enlarge(s, times); !slices.Equal(large, want) || e != wantError {
			t.Error(s, times, large, e, wantError)
		}
		seen[wantError]++
	}
	for _, e := range []api.Errno{api.OK, api.ErrRange, api.ErrLong} {
		if seen[e] < 10 {
			t.Error("seldom tried", e, seen[e])
		}
	}
}
