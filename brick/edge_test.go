package brick_test

import (
	"slices"
	"testing"

	"chiti/api"
	"chiti/brick"
)

// P5.4: the border is the edges that just one quarter has.
func TestBorder(t *testing.T) {
	for text, want := range map[string][]api.Edge{
		"f":     {edge(0, 0, 4), edge(0, 0, 5), edge(1, 0, 5), edge(0, 1, 4)},
		"1":     {edge(0, 0, 0), edge(0, 0, 3), edge(0, 1, 4)},
		"2":     {edge(0, 0, 0), edge(0, 0, 1), edge(1, 0, 5)},
		"4":     {edge(0, 0, 1), edge(0, 0, 2), edge(0, 0, 4)},
		"8":     {edge(0, 0, 2), edge(0, 0, 3), edge(0, 0, 5)},
		"3":     {edge(0, 0, 1), edge(0, 0, 3), edge(1, 0, 5), edge(0, 1, 4)},
		"5":     {edge(0, 0, 0), edge(0, 0, 1), edge(0, 0, 2), edge(0, 0, 3), edge(0, 0, 4), edge(0, 1, 4)},
		"ff":    {edge(0, 0, 4), edge(0, 0, 5), edge(1, 0, 4), edge(2, 0, 5), edge(0, 1, 4), edge(1, 1, 4)},
		"28":    {edge(0, 0, 0), edge(0, 0, 1), edge(1, 0, 2), edge(1, 0, 3)},
		"82":    {edge(0, 0, 2), edge(0, 0, 3), edge(0, 0, 5), edge(1, 0, 0), edge(1, 0, 1), edge(2, 0, 5)},
		"4/1":   {edge(0, 0, 0), edge(0, 0, 3), edge(0, 1, 1), edge(0, 1, 2)},
		"6c/39": {edge(0, 0, 1), edge(0, 0, 3), edge(1, 0, 0), edge(1, 0, 2), edge(0, 1, 0), edge(0, 1, 2), edge(1, 1, 1), edge(1, 1, 3)},
	} {
		for _, at := range [][2]int{{0, 0}, {14, 14}, {3, 8}} {
			var moved []api.Edge
			for _, e := range want {
				moved = append(moved, edge(e.X+at[0], e.Y+at[1], e.Kind))
			}
			if l, e := brick.Border(shapeAt(t, text, at[0], at[1])); !same(l, moved) || e != api.OK {
				t.Error(text, at, l, e)
			}
		}
	}
}

// P5.4: edges can be in a column or a row off the grid, and order is by Y, then by X, then by Kind.
func TestBorderLikeModel(t *testing.T) {
	next := pseudo()
	for i := range 1500 {
		s := someShape(next, []int{1, 2, 5, 16}[i%4])
		if l, e := brick.Border(s); !same(l, modelBorder(s)) || e != api.OK {
			t.Error(s, l, e)
		}
	}
	if l, e := brick.Border(full(400)); !same(l, modelBorder(full(400))) || e != api.OK {
		t.Error(l, e)
	}
}

// P5.4: joints are the edges between quarters of different shapes.
func TestJoints(t *testing.T) {
	for i, c := range []struct {
		l    [][]api.Quarter
		want []api.Edge
	}{
		{nil, nil}, {[][]api.Quarter{}, nil}, {shapes(t, "f0/ff"), nil}, {shapes(t, "5"), nil},
		{shapes(t, "3", "c"), []api.Edge{edge(0, 0, 1), edge(0, 0, 3)}}, {shapes(t, "c", "3"), []api.Edge{edge(0, 0, 1), edge(0, 0, 3)}},
		{shapes(t, "1", "2", "4", "8"), []api.Edge{edge(0, 0, 0), edge(0, 0, 1), edge(0, 0, 2), edge(0, 0, 3)}}, {shapes(t, "5", "a"), []api.Edge{edge(0, 0, 0), edge(0, 0, 1), edge(0, 0, 2), edge(0, 0, 3)}},
		{shapes(t, "1", "4"), nil}, {shapes(t, "1", "8"), []api.Edge{edge(0, 0, 3)}},
		{[][]api.Quarter{shape(t, "f"), shapeAt(t, "f", 1, 1)}, nil}, {[][]api.Quarter{shape(t, "f"), shapeAt(t, "f", 2, 0)}, nil},
		{[][]api.Quarter{shapeAt(t, "f", 1, 0), shape(t, "f")}, []api.Edge{edge(1, 0, 5)}}, {[][]api.Quarter{shapeAt(t, "f", 14, 15), shapeAt(t, "f", 15, 15), shapeAt(t, "f", 15, 14)}, []api.Edge{edge(15, 15, 4), edge(15, 15, 5)}},
		{[][]api.Quarter{shapeAt(t, "ff", 0, 1), shape(t, "f"), shapeAt(t, "f", 1, 0)}, []api.Edge{edge(1, 0, 5), edge(0, 1, 4), edge(1, 1, 4)}},
		{[][]api.Quarter{shapeAt(t, "1", 0, 0), shapeAt(t, "4", 0, 1)}, []api.Edge{edge(0, 1, 4)}},
		{[][]api.Quarter{{quarter(15, 4, 1)}, {quarter(0, 4, 3)}, {quarter(4, 15, 0)}, {quarter(4, 0, 2)}}, nil},
	} {
		if l, e := brick.Joints(c.l); !same(l, c.want) || e != api.OK {
			t.Error(i, l, e)
		}
	}
}

func TestJointsLikeModel(t *testing.T) {
	next := pseudo()
	for i := range 1000 {
		l := someShapes(next, 1+next(9), []int{2, 5, 16}[i%3])
		if got, e := brick.Joints(l); !same(got, modelJoints(l)) || e != api.OK {
			t.Error(l, got, e)
		}
	}
}

// P5.4: the errors of Joints are too many shapes, then those of the shapes in order, then a quarter in two of them.
func TestJointsErrors(t *testing.T) {
	var apart [][]api.Quarter
	for i := range 60 {
		apart = append(apart, shapeAt(t, "f", i%10, i/10))
	}
	f, one := shape(t, "f"), shape(t, "1")
	for i, c := range []struct {
		l [][]api.Quarter
		e api.Errno
	}{
		{apart, api.OK}, {append(slices.Clone(apart), shapeAt(t, "f", 15, 15)), api.ErrLong}, {make([][]api.Quarter, 61), api.ErrLong}, {make([][]api.Quarter, 60), api.ErrArg},
		{append(slices.Clone(apart), full(401)), api.ErrLong}, {append(slices.Clone(apart[:59]), nil), api.ErrArg}, {append(slices.Clone(apart[:59]), one), api.ErrTwice},
		{[][]api.Quarter{f, f}, api.ErrTwice}, {[][]api.Quarter{f, one}, api.ErrTwice}, {[][]api.Quarter{one, f}, api.ErrTwice}, {[][]api.Quarter{one, shape(t, "2"), one}, api.ErrTwice},
		{[][]api.Quarter{f, f, nil}, api.ErrArg}, {[][]api.Quarter{f, f, full(401)}, api.ErrLong}, {[][]api.Quarter{nil, full(401)}, api.ErrArg}, {[][]api.Quarter{full(401), nil}, api.ErrLong},
		{[][]api.Quarter{shape(t, "3"), shape(t, "6")}, api.ErrTwice}, {[][]api.Quarter{full(400), {quarter(15, 15, 3)}}, api.OK}, {[][]api.Quarter{full(400), {quarter(3, 6, 3)}}, api.ErrTwice}, {[][]api.Quarter{full(400), {quarter(4, 6, 0)}}, api.OK},
	} {
		if l, e := brick.Joints(c.l); e != c.e || e != api.OK && len(l) != 0 {
			t.Error(i, l, e)
		}
	}
	if l, _ := brick.Joints(apart); len(l) != 9*6+10*5 {
		t.Error(len(l))
	}
}
