package brick_test

import (
	"testing"

	"chiti/api"
	"chiti/brick"
)

// P5.5: Places are those in the ground, without Mirror first, then by Turns, by Y and by X, each set of quarters once.
func TestPlaces(t *testing.T) {
	for _, c := range []struct {
		s, ground string
		want      []api.Place
	}{
		{"ff", "ff/ff", []api.Place{{}, {Y: 1}, {Turns: 1}, {Turns: 1, X: 1}}},
		{"f", "f0/ff", []api.Place{{}, {X: 1}, {Y: 1}}},
		{"f", "0f/ff", []api.Place{{}, {X: 1}, {X: 1, Y: 1}}},
		{"1", "f", []api.Place{{}, {Turns: 1}, {Turns: 2}, {Turns: 3}}},
		{"8", "f", []api.Place{{}, {Turns: 1}, {Turns: 2}, {Turns: 3}}},
		{"3", "7", []api.Place{{}, {Turns: 3}}},
		{"5", "f", []api.Place{{}, {Turns: 1}}},
		{"6c", "6c/39", []api.Place{{Y: 1}, {Turns: 1}, {Turns: 2}, {Turns: 3, X: 1}}},
		{"f1", "1ff1", []api.Place{{X: 1}, {X: 2}, {Turns: 2, X: 1}, {Mirror: true}, {Mirror: true, X: 1}, {Mirror: true, Turns: 2, X: 1}}},
		{"f1", "1f/4f", []api.Place{{Turns: 1, X: 1}, {Turns: 2}, {Turns: 3, X: 1}, {Mirror: true, Y: 1}, {Mirror: true, Turns: 1, X: 1}, {Mirror: true, Turns: 3, X: 1}}},
		{"ff", "fff", []api.Place{{}, {X: 1}}},
		{"ff", "f/f/f", []api.Place{{Turns: 1}, {Turns: 1, Y: 1}}},
		{"ff", "f7", nil}, {"ff", "f", nil}, {"f1", "f8", nil}, {"f0f", "ff0f", []api.Place{{X: 1}}}, {"f", "7", nil}, {"f0/ff", "ff/ff", []api.Place{{}, {Turns: 1}, {Turns: 2}, {Turns: 3}}},
	} {
		for _, at := range [][2]int{{0, 0}, {12, 13}, {2, 6}} {
			var want []api.Place
			for _, p := range c.want {
				p.X, p.Y = p.X+at[0], p.Y+at[1]
				want = append(want, p)
			}
			for _, from := range [][2]int{{0, 0}, {13, 12}} {
				l, e := brick.Places(shapeAt(t, c.s, from[0], from[1]), shapeAt(t, c.ground, at[0], at[1]))
				if !same(l, want) || e != api.OK {
					t.Error(c.s, c.ground, at, l, e)
				}
			}
		}
	}
	for _, c := range []struct {
		s, ground string
		want      int
	}{{"3", "ff/ff", 16}, {"1", "ff/ff", 16}, {"ff", "fff/fff/fff", 12}, {"f1", "ff/ff", 16}, {"5", "ff/ff", 8}, {"f0/ff", "fff/fff/fff", 16}, {"6c", "ff/ff", 8}} {
		if l, e := brick.Places(shape(t, c.s), shape(t, c.ground)); len(l) != c.want || e != api.OK {
			t.Error(c, len(l), e)
		}
	}
}

func TestPlacesLikeModel(t *testing.T) {
	next := pseudo()
	mirrored, many := 0, 0
	for i := range 600 {
		ground := someShape(next, []int{2, 4, 8, 16}[i%4])
		s := someShape(next, 1+next(3))
		if i%3 > 0 {
			s = some(next, 0, 0, 1+next(2), 1+next(2), i%3)
		}
		want := modelPlaces(s, ground)
		l, e := brick.Places(s, ground)
		if !same(l, want) || e != api.OK {
			t.Error(s, ground, l, e)
		}
		if len(want) > 8 {
			many++
		}
		if len(want) > 0 && want[len(want)-1].Mirror {
			mirrored++
		}
	}
	if mirrored < 50 || many < 100 {
		t.Error("only so many are reflected, or have many places:", mirrored, many)
	}
}

// P5.5: also a ground that fills the grid has all of its places.
func TestPlacesOfGrid(t *testing.T) {
	var square []api.Quarter
	for i := range 100 * 4 {
		square = append(square, quarter(i/4%10, i/40, i%4))
	}
	var margin []api.Quarter
	for y := range 16 {
		for x := range 16 {
			if x%15 == 0 || y%15 == 0 {
				margin = append(margin, full(4)...)
				for k := range 4 {
					margin[len(margin)-4+k] = quarter(x, y, k)
				}
			}
		}
	}
	for i, c := range []struct {
		s, ground []api.Quarter
		want      int
	}{
		{shape(t, "f"), full(400), 100}, {shape(t, "1"), full(400), 400}, {shape(t, "ff"), full(400), 6*15 + 4 - 1 + 5*16 + 4}, {square, square, 1}, {shape(t, "f1"), square, 9 * 10 * 8},
		{shape(t, "f"), margin, 60}, {shape(t, "ffffffffffffffff"), margin, 4}, {margin, margin, 1}, {shape(t, "f000000000000000/ffffffffffffffff"), margin, 8},
	} {
		if l, e := brick.Places(c.s, c.ground); len(l) != c.want || e != api.OK {
			t.Error(i, len(l), e)
		}
	}
}
