package brick_test

import (
	"testing"

	"chiti/api"
	"chiti/brick"
)

// P5.1: a list is a shape if it has 1 to 400 quarters on the grid in strictly ascending order.
func TestCheck(t *testing.T) {
	for i, c := range []struct {
		s []api.Quarter
		e api.Errno
	}{
		{nil, api.ErrArg}, {[]api.Quarter{}, api.ErrArg},
		{[]api.Quarter{quarter(0, 0, 0)}, api.OK}, {[]api.Quarter{quarter(15, 15, 3)}, api.OK}, {[]api.Quarter{quarter(15, 0, 1)}, api.OK}, {[]api.Quarter{quarter(0, 15, 2)}, api.OK},
		{[]api.Quarter{quarter(16, 0, 0)}, api.ErrArg}, {[]api.Quarter{quarter(0, 16, 0)}, api.ErrArg}, {[]api.Quarter{quarter(0, 0, 4)}, api.ErrArg},
		{[]api.Quarter{quarter(-1, 0, 0)}, api.ErrArg}, {[]api.Quarter{quarter(0, -1, 0)}, api.ErrArg}, {[]api.Quarter{quarter(0, 0, -1)}, api.ErrArg},
		{[]api.Quarter{quarter(1, 1, 1), quarter(1, 1, 1)}, api.ErrArg}, {[]api.Quarter{quarter(1, 1, 2), quarter(1, 1, 1)}, api.ErrArg},
		{[]api.Quarter{quarter(2, 1, 0), quarter(1, 1, 3)}, api.ErrArg}, {[]api.Quarter{quarter(1, 2, 0), quarter(2, 1, 3)}, api.ErrArg},
		{[]api.Quarter{quarter(1, 1, 1), quarter(1, 1, 2)}, api.OK}, {[]api.Quarter{quarter(1, 1, 3), quarter(2, 1, 0)}, api.OK}, {[]api.Quarter{quarter(2, 1, 3), quarter(1, 2, 0)}, api.OK},
		{[]api.Quarter{quarter(0, 0, 0), quarter(1, 0, 0), quarter(2, 0, 0), quarter(2, 0, 0)}, api.ErrArg}, {[]api.Quarter{quarter(0, 0, 0), quarter(1, 0, 0), quarter(2, 16, 0)}, api.ErrArg},
		{full(400), api.OK}, {full(401), api.ErrLong}, {make([]api.Quarter, 400), api.ErrArg}, {make([]api.Quarter, 401), api.ErrLong},
		{append(full(399), quarter(9, 6, 4)), api.ErrArg},
	} {
		if e := brick.Check(c.s); e != c.e {
			t.Error(i, e)
		}
	}
	for _, n := range extremes() {
		want := func(isIn bool) api.Errno {
			if isIn {
				return api.OK
			}
			return api.ErrArg
		}
		for i, c := range []struct {
			q api.Quarter
			e api.Errno
		}{{quarter(n, 3, 3), want(inGrid(n))}, {quarter(3, n, 3), want(inGrid(n))}, {quarter(3, 3, n), want(0 <= n && n < 4)}} {
			if e := brick.Check([]api.Quarter{c.q}); e != c.e {
				t.Error(n, i, e)
			}
		}
	}
}

// P5.1: all functions with shapes return the errors of Check first, for their shapes in order.
func TestCheckedFirst(t *testing.T) {
	good := full(3)
	for _, c := range []struct {
		s []api.Quarter
		e api.Errno
	}{{nil, api.ErrArg}, {[]api.Quarter{quarter(0, 0, 7)}, api.ErrArg}, {[]api.Quarter{quarter(1, 0, 0), quarter(1, 0, 0)}, api.ErrArg}, {full(401), api.ErrLong}, {make([]api.Quarter, 1000), api.ErrLong}} {
		other := full(401)
		if c.e == api.ErrLong {
			other = nil
		}
		errors := map[string]api.Errno{"Check": brick.Check(c.s)}
		_, errors["Put"] = brick.Put(c.s, api.Place{Turns: 9, X: -1, Y: 99})
		_, errors["Norm"] = brick.Norm(c.s)
		_, errors["Images"] = brick.Images(c.s)
		_, errors["Same, first"] = brick.Same(c.s, other)
		_, errors["Same, second"] = brick.Same(good, c.s)
		_, errors["Pieces"] = brick.Pieces(c.s)
		_, errors["Border"] = brick.Border(c.s)
		_, errors["Joints"] = brick.Joints([][]api.Quarter{c.s})
		_, errors["Joints, first"] = brick.Joints([][]api.Quarter{good, good, c.s, other})
		_, errors["Places, first"] = brick.Places(c.s, other)
		_, errors["Places, second"] = brick.Places(good, c.s)
		_, errors["Name"] = brick.Name(c.s)
		_, errors["Format"] = brick.Format(c.s)
		for name, e := range errors {
			if e != c.e {
				t.Error(name, len(c.s), e)
			}
		}
	}
}

// P5.1: Put reflects, then turns, then moves.
func TestPut(t *testing.T) {
	for _, c := range []struct {
		s    string
		p    api.Place
		want string
	}{
		{"6c", api.Place{}, "6c"}, {"6c", api.Place{Turns: 1}, "6/3"}, {"6c", api.Place{Turns: 2}, "39"}, {"6c", api.Place{Turns: 3}, "c/9"},
		{"6c", api.Place{Mirror: true}, "6c"}, {"6c", api.Place{Mirror: true, Turns: 1}, "6/3"},
		{"1", api.Place{Turns: 1}, "8"}, {"2", api.Place{Turns: 1}, "1"}, {"4", api.Place{Turns: 1}, "2"}, {"8", api.Place{Turns: 1}, "4"},
		{"1", api.Place{Mirror: true}, "1"}, {"2", api.Place{Mirror: true}, "8"}, {"4", api.Place{Mirror: true}, "4"}, {"8", api.Place{Mirror: true}, "2"},
		{"3", api.Place{Mirror: true}, "9"}, {"3", api.Place{Mirror: true, Turns: 1}, "c"}, {"3", api.Place{Mirror: true, Turns: 2}, "6"}, {"3", api.Place{Mirror: true, Turns: 3}, "3"},
		{"f1", api.Place{Turns: 1}, "8/f"}, {"f1", api.Place{Turns: 2}, "4f"}, {"f1", api.Place{Turns: 3}, "f/2"}, {"f1", api.Place{Mirror: true}, "1f"}, {"f1", api.Place{Mirror: true, Turns: 1}, "f/8"},
		{"f0/ff", api.Place{Turns: 1}, "0f/ff"}, {"ff10/0001", api.Place{Turns: 1}, "08/80/f0/f0"},
	} {
		for _, at := range [][2]int{{0, 0}, {12, 12}, {3, 7}} {
			c.p.X, c.p.Y = at[0], at[1]
			want := shapeAt(t, c.want, at[0], at[1])
			for _, from := range [][2]int{{0, 0}, {5, 1}, {12, 12}} {
				if s, e := brick.Put(shapeAt(t, c.s, from[0], from[1]), c.p); !same(s, want) || e != api.OK {
					t.Error(c.s, from, c.p, s, e)
				}
			}
		}
	}
}

// P5.1: ErrRange unless Turns is from 0 to 3, and all columns and rows are on the grid.
func TestPutRange(t *testing.T) {
	for _, c := range []struct {
		s string
		p api.Place
		e api.Errno
	}{
		{"ff1", api.Place{X: 13, Y: 15}, api.OK}, {"ff1", api.Place{X: 14}, api.ErrRange}, {"ff1", api.Place{X: 13, Y: 16}, api.ErrRange},
		{"ff1", api.Place{Turns: 1, X: 15, Y: 13}, api.OK}, {"ff1", api.Place{Turns: 1, X: 15, Y: 14}, api.ErrRange}, {"ff1", api.Place{Turns: 1, X: 16, Y: 13}, api.ErrRange},
		{"ff1", api.Place{X: -1}, api.ErrRange}, {"ff1", api.Place{Y: -1}, api.ErrRange}, {"ff1", api.Place{X: -2}, api.ErrRange},
		{"f", api.Place{Turns: 4}, api.ErrRange}, {"f", api.Place{Turns: -1}, api.ErrRange}, {"f", api.Place{Mirror: true, Turns: 8}, api.ErrRange},
		{"f", api.Place{X: 15, Y: 15, Turns: 3}, api.OK}, {"ffffffffffffffff", api.Place{Y: 15}, api.OK}, {"ffffffffffffffff", api.Place{Turns: 1, X: 15}, api.OK}, {"ffffffffffffffff", api.Place{Turns: 1, Y: 1}, api.ErrRange},
		{"ffffffffffffffff", api.Place{X: 1}, api.ErrRange},
	} {
		s, e := brick.Put(shape(t, c.s), c.p)
		if e != c.e || e != api.OK && len(s) != 0 {
			t.Error(c.s, c.p, s, e)
		}
	}
	for _, n := range extremes() {
		for _, p := range []api.Place{{X: n}, {Y: n}, {Turns: n}, {X: n, Y: n}, {Mirror: true, Turns: 3, X: n}, {Mirror: true, Turns: n, X: n, Y: n}} {
			for _, text := range []string{"1", "f1", "000f/f000", "0f0f/f000/000f/f0f0"} {
				s := shapeAt(t, text, 12, 9)
				want, ok := modelPut(s, p)
				got, e := brick.Put(s, p)
				if !same(got, want) || ok != (e == api.OK) || !ok && e != api.ErrRange {
					t.Error(text, p, got, e)
				}
			}
		}
	}
}

// P5.1: Put and Norm do with any shape what the chapter says.
func TestPutLikeModel(t *testing.T) {
	next := pseudo()
	count := 0
	for i := range 4000 {
		s := someShape(next, []int{2, 4, 9, 16}[i%4])
		p := somePlace(next)
		if next(3) == 0 {
			p.X, p.Y = next(3), next(3)
		}
		want, ok := modelPut(s, p)
		got, e := brick.Put(s, p)
		if !same(got, want) || ok != (e == api.OK) || !ok && e != api.ErrRange {
			t.Error(s, p, got, e)
		}
		if ok {
			count++
		}
		want, _ = modelPut(s, api.Place{})
		if norm, e := brick.Norm(s); !same(norm, want) || e != api.OK {
			t.Error(s, norm, e)
		}
	}
	if count < 1000 || count > 3500 {
		t.Error("only so many could be put:", count)
	}
}

// P5.1: the whole grid can be turned, and comes to lie where it was.
func TestPutGrid(t *testing.T) {
	var s []api.Quarter
	for i := range 16 {
		s = append(s, quarter(i, i, 0))
	}
	for turns, c := range map[int]func(i int) api.Quarter{
		0: func(i int) api.Quarter { return quarter(i, i, 0) },
		1: func(i int) api.Quarter { return quarter(15-i, i, 3) },
		2: func(i int) api.Quarter { return quarter(i, i, 2) },
		3: func(i int) api.Quarter { return quarter(15-i, i, 1) },
	} {
		got, e := brick.Put(s, api.Place{Turns: turns})
		if e != api.OK || len(got) != 16 {
			t.Error(turns, got, e)
			continue
		}
		for i, q := range got {
			if q != c(i) {
				t.Error(turns, i, q)
			}
		}
	}
	if got, e := brick.Norm(full(400)); !same(got, full(400)) || e != api.OK {
		t.Error(got, e)
	}
}
