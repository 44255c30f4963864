package kiln_test

import (
	"slices"
	"testing"

	"chiti/api"
	"chiti/kiln"
)

// P8.3: the fewest and the most that can be left.
func TestLeft(t *testing.T) {
	tenth := stages(500, 1000, 500, 1000)
	for i, c := range []struct {
		n    int
		l    []api.YardStage
		want api.Spread
	}{
		{100, tenth, spread(81, 91)},
		{98, tenth, spread(81, 90)},
		{97, tenth, spread(80, 89)},
		{5, nil, spread(5, 5)},
		{0, nil, spread(0, 0)},
		{0, tenth, spread(0, 0)},
		{9, tenth, spread(9, 9)},
		{10, tenth, spread(9, 10)},
		{19, stages(500, 1000), spread(18, 19)},
		{20, stages(500, 1000), spread(18, 19)},
		{7, stages(0, 10000), spread(0, 7)},
		{7, stages(10000, 10000), spread(0, 0)},
		{7, stages(9999, 10000), spread(0, 1)},
		{10000, stages(9999, 10000), spread(0, 1)},
		{7, stages(0, 0), spread(7, 7)},
		{9999, stages(1, 1), spread(9999, 9999)},
		{10000, stages(1, 1), spread(9999, 9999)},
		{1000, stages(0, 10000, 5000, 5000), spread(0, 500)},
		{101, stages(5000, 5000, 0, 1), spread(51, 51)},
		{1000000000, nil, spread(1000000000, 1000000000)},
		{1000000000, tenth, spread(810000000, 902500000)},
		{1000000000, slices.Repeat(stages(10000, 10000), 10), spread(0, 0)},
		{1000, slices.Repeat(stages(0, 5000), 10), spread(1, 1000)},
		{1023, slices.Repeat(stages(5000, 5000), 10), spread(1, 1)},
		{1025, slices.Repeat(stages(5000, 5000), 10), spread(2, 2)},
	} {
		if s, e := kiln.Left(c.n, c.l); s != c.want || e != api.OK {
			t.Error(i, c.n, c.l, s, e)
		}
	}
}

// P8.3, P8.4: errors in their order.
func TestStages(t *testing.T) {
	for i, c := range []struct {
		n int
		l []api.YardStage
		e api.Errno
	}{
		{0, make([]api.YardStage, 10), api.OK},
		{0, make([]api.YardStage, 11), api.ErrLong},
		{-1, make([]api.YardStage, 11), api.ErrLong},
		{-1, slices.Repeat(stages(-1, 0), 11), api.ErrLong},
		{0, stages(0, 0), api.OK},
		{0, stages(10000, 10000), api.OK},
		{0, stages(0, 10000), api.OK},
		{0, stages(-1, 0), api.ErrArg},
		{0, stages(-1, -1), api.ErrArg},
		{0, stages(0, 10001), api.ErrArg},
		{0, stages(10001, 10001), api.ErrArg},
		{0, stages(1, 0), api.ErrArg},
		{0, stages(10000, 9999), api.ErrArg},
		{0, stages(0, 0, 0, 0, 1, 0), api.ErrArg},
		{0, stages(1, 0, 0, 0), api.ErrArg},
		{0, append(make([]api.YardStage, 9), stages(0, 10001)...), api.ErrArg},
		{-1, stages(1, 0), api.ErrArg},
		{1000000001, stages(1, 0), api.ErrArg},
		{-1, stages(0, 0), api.ErrRange},
		{-1, nil, api.ErrRange},
		{1000000001, nil, api.ErrRange},
		{1000000001, stages(10000, 10000), api.ErrRange},
		{1000000000, nil, api.OK},
	} {
		if s, e := kiln.Left(c.n, c.l); e != c.e || e != api.OK && s != spread(0, 0) {
			t.Error(i, c.n, c.l, s, e)
		}
		if n, e := kiln.Need(c.n, c.l); e != c.e || n != 0 && c.n == 0 || e != api.OK && n != 0 {
			t.Error(i, c.n, c.l, n, e)
		}
	}
	for _, n := range extremes() {
		want := api.ErrRange
		if 0 <= n && n <= 1000000000 {
			want = api.OK
		}
		s, e := kiln.Left(n, nil)
		m, f := kiln.Need(n, nil)
		if e != want || f != want || e == api.OK && (s != spread(n, n) || m != n) || e != api.OK && (s != spread(0, 0) || m != 0) {
			t.Error(n, s, e, m, f)
		}
	}
}

// P8.4: the least number of which enough are left.
func TestNeed(t *testing.T) {
	tenth := stages(500, 1000, 500, 1000)
	for i, c := range []struct {
		n    int
		l    []api.YardStage
		want int
		e    api.Errno
	}{
		{81, tenth, 98, api.OK},
		{82, tenth, 101, api.OK},
		{90, tenth[:1], 99, api.OK},
		{9, tenth[:1], 9, api.OK},
		{10, tenth[:1], 11, api.OK},
		{0, tenth, 0, api.OK},
		{0, nil, 0, api.OK},
		{1, nil, 1, api.OK},
		{1, tenth, 1, api.OK},
		{1, stages(0, 9999), 1, api.OK},
		{2, stages(0, 9999), 10001, api.OK},
		{1, stages(0, 10000), 0, api.ErrNone},
		{0, stages(0, 10000), 0, api.OK},
		{1, slices.Repeat(stages(0, 9999), 10), 1, api.OK},
		{2, stages(0, 9999, 0, 9999), 100000001, api.OK},
		{2, stages(0, 9999, 0, 9999, 0, 9999), 0, api.ErrNone},
		{10, stages(0, 9999, 0, 9999), 900000001, api.OK},
		{11, stages(0, 9999, 0, 9999), 0, api.ErrNone},
		{1000000000, nil, 1000000000, api.OK},
		{1000000000, stages(0, 0, 0, 0), 1000000000, api.OK},
		{999999999, nil, 999999999, api.OK},
		{1000000000, stages(0, 1), 0, api.ErrNone},
		{900000000, stages(0, 1000), 999999999, api.OK},
		{900000001, stages(0, 1000), 0, api.ErrNone},
		{1000000000, tenth, 0, api.ErrNone},
	} {
		if n, e := kiln.Need(c.n, c.l); n != c.want || e != c.e {
			t.Error(i, c.n, c.l, n, e)
		}
	}
}

// P8.3, P8.4: what is left is what all ways to lose bricks leave, and no fewer are enough.
func TestLossesByModel(t *testing.T) {
	next := pseudo()
	for range 1500 {
		n, l := next([]int{6, 60, 300}[next(3)]), someStages(next, 4)
		s, e := kiln.Left(n, l)
		if s != modelLeft(n, l) || e != api.OK {
			t.Error(n, l, s, e)
		}
		need, e := kiln.Need(s.Low, l)
		want := 0
		for modelFewest(want, l) < s.Low {
			want++
		}
		if need != want || e != api.OK {
			t.Error(n, l, s, need, want, e)
		}
	}
}

func modelFewest(n int, l []api.YardStage) int {
	for _, s := range l {
		n -= n * s.Most / 10000
	}
	return n
}

// P8.14: the laws of losses, with great numbers.
func TestLawsOfLosses(t *testing.T) {
	next := pseudo()
	tried, none := 0, 0
	for range 5000 {
		l := someStages(next, 10)
		n := next([]int{100, 100000, 1000000001}[next(3)])
		other := min(1000000000, n+next([]int{3, 300, 1000000000}[next(3)]))
		s, e := kiln.Left(n, l)
		more, f := kiln.Left(other, l)
		if more.Low < s.Low || more.High < s.High || e != api.OK || f != api.OK {
			t.Error(n, other, l, s, more, e, f)
		}
		if len(l) > 0 {
			i := next(len(l))
			fewer, e := kiln.Left(n, slices.Concat(l[:i], l[i+1:]))
			if s.Low > fewer.Low || s.High > fewer.High || e != api.OK {
				t.Error(n, l, i, s, fewer, e)
			}
		}
		need, e := kiln.Need(n, l)
		if e == api.ErrNone {
			none++
			if all, _ := kiln.Left(1000000000, l); all.Low >= n {
				t.Error(n, l, all)
			}
			continue
		}
		tried++
		enough, f := kiln.Left(need, l)
		if enough.Low < n || e != api.OK || f != api.OK {
			t.Error(n, l, need, enough, e, f)
		}
		if short, _ := kiln.Left(max(0, need-1), l); need > 0 && short.Low >= n {
			t.Error(n, l, need, short)
		}
	}
	if tried < 2000 || none < 200 {
		t.Error("only so many were tried:", tried, none)
	}
}
