package rite_test

import (
	"slices"
	"strings"
	"testing"

	"chiti/api"
	"chiti/rite"
)

// many returns a rite with so many acts.
func many(count int) api.Rite {
	r := riteOf(30, 4)
	for i := range count {
		r.Acts = append(r.Acts, must(string(rune('a'+i)), 0, 30))
	}
	return r
}

// P9.1: what a rite can be.
func TestCheck(t *testing.T) {
	change := func(act int, f func(a *api.Act)) api.Rite {
		r := vow(2)
		f(&r.Acts[act])
		return r
	}
	name := func(s string) api.Rite { return change(3, func(a *api.Act) { a.Name = s }) }
	needs := func(l ...int) api.Rite { return change(3, func(a *api.Act) { a.Needs = l }) }
	instead := func(l ...int) api.Rite { return change(3, func(a *api.Act) { a.Instead = l }) }
	atone := func(act, n int) api.Rite { return change(act, func(a *api.Act) { a.Atone = n }) }
	days := func(from, to int) api.Rite { return change(3, func(a *api.Act) { a.From, a.To = from, to }) }
	turned := func(act int, is bool) api.Rite { return change(act, func(a *api.Act) { a.Extra = is }) }
	for i, c := range []struct {
		r  api.Rite
		ok bool
	}{
		{fire(1), true}, {vow(1), true},
		{api.Rite{}, false}, {riteOf(0, 1), false}, {riteOf(0, 1, must("a", 0, 0)), true}, {riteOf(0, 1, extra("a", 0, 0)), true},
		{many(10), true}, {many(11), false}, {many(1), true}, {many(16), false}, {many(17), false},
		{riteOf(-1, 1, must("a", 0, 0)), false}, {riteOf(-1, 1, must("a", 0, -1)), false}, {riteOf(30, 1, must("a", 30, 30)), true}, {riteOf(31, 1, must("a", 0, 0)), false}, {riteOf(31, 1, must("a", 31, 31)), false},
		{riteOf(0, 0, must("a", 0, 0)), false}, {riteOf(0, 4, must("a", 0, 0)), true}, {riteOf(0, 5, must("a", 0, 0)), false}, {riteOf(0, -1, must("a", 0, 0)), false},
		{name(""), false}, {name("a"), true}, {name("az"), true}, {name(strings.Repeat("z", 12)), true}, {name(strings.Repeat("z", 13)), false}, {name("Feed"), false}, {name("fee d"), false}, {name("`"), false}, {name("{"), false}, {name("feed1"), false}, {name("feed\n"), false}, {name("\x00"), false}, {name("\xe4"), false}, {name("fä"), false}, {name("offe"), true}, {name("offers"), true},
		{name("wake"), false}, {name("offer"), false}, {name("sprinkle"), false}, {name("idle"), false},
		{needs(), true}, {needs(3), false}, {needs(2, 3), false}, {needs(0, 1, 2, 4, 5, 6, 7, 8), true}, {needs(8), true}, {needs(9), false}, {needs(8, 9), false}, {needs(-1), false}, {needs(-1, 0), false}, {needs(1, 1), false}, {needs(2, 1), false}, {needs(0, 2, 1), false}, {needs(1<<63 - 1), false}, {needs(-1 << 63), false}, {needs(64), false}, {needs(slices.Repeat([]int{0}, 1<<16)...), false},
		{instead(), true}, {instead(4, 5), true}, {instead(8), true}, {instead(5, 4), false}, {instead(5, 5), false}, {instead(0), false}, {instead(2), false}, {instead(3), false}, {instead(9), false}, {instead(-1), false}, {instead(4, 5, 8), true}, {instead(4, 9), false},
		{instead(6), false}, {instead(7), false}, {instead(4, 5, 7), false},
		{atone(3, -1), true}, {atone(3, -2), false}, {atone(3, 7), true}, {atone(3, 8), true}, {atone(3, 9), false}, {atone(3, 3), false}, {atone(3, 0), false}, {atone(3, 2), false}, {atone(3, 4), false}, {atone(3, 5), false}, {atone(6, 6), false}, {atone(6, 7), true}, {atone(7, 6), true}, {atone(8, 7), true}, {atone(3, -1<<63), false}, {atone(3, 1<<63-1), false},
		{days(0, 9), true}, {days(9, 9), true}, {days(0, 0), true}, {days(-1, 3), false}, {days(-1, -1), false}, {days(4, 3), false}, {days(0, 10), false}, {days(10, 10), false}, {days(9, 0), false}, {days(0, -1), false}, {days(-1<<63, 1<<63-1), false},
		{turned(0, true), true}, {turned(4, false), false}, {turned(5, false), false}, {turned(6, false), false}, {turned(7, false), false}, {turned(8, false), true},
		// Of two acts each can need the other one, or stand in for it.
		{riteOf(0, 1, must("a", 0, 0, 1), must("b", 0, 0, 0)), true}, {riteOf(0, 1, with(extra("a", 0, 0), -1, 1), with(extra("b", 0, 0), -1, 0)), true}, {riteOf(0, 1, with(extra("a", 0, 0), 1), with(extra("b", 0, 0), 0)), true},
		// An act is a substitute of one act, and the atonement of another one, or of the same.
		{riteOf(0, 1, with(must("a", 0, 0), -1, 2), with(must("b", 0, 0), 2), extra("c", 0, 0)), false}, {riteOf(0, 1, with(must("a", 0, 0), 2), with(must("b", 0, 0), -1, 2), extra("c", 0, 0)), false}, {riteOf(0, 1, with(must("a", 0, 0), 1, 1), extra("b", 0, 0)), false}, {riteOf(0, 1, with(must("a", 0, 0), 1, 2), extra("b", 0, 0), extra("c", 0, 0)), true}, {riteOf(0, 1, extra("c", 0, 0), with(must("a", 0, 0), 0, 2), extra("b", 0, 0)), true}, {riteOf(0, 1, with(extra("a", 0, 0), -1, 2), with(extra("b", 0, 0), 2), extra("c", 0, 0)), false},
	} {
		want := api.ErrArg
		if c.ok {
			want = api.OK
		}
		for name, o := range outcomes(c.r, nil, 0, "") {
			if (o.e == api.ErrArg) == c.ok || o.e != api.OK && o.results != o.zero {
				t.Error(i, name, c.r, o)
			}
		}
		if e := rite.Check(c.r); e != want {
			t.Error(i, c.r, e)
		}
	}
}

// P9.1: the error of a rite comes before all others.
func TestNoRite(t *testing.T) {
	r := fire(5)
	long := strings.Repeat("0 kindle\n", 200)
	for _, l := range [][]api.Deed{nil, course(0, 0), course(1, 1), course(7, 7), course(3, 2, 3, 1)} {
		for _, day := range []int{-1, 0, 3, 6} {
			for _, text := range []string{"", "x", "0 kindle\n", long} {
				for name, o := range outcomes(r, l, day, text) {
					if o.e != api.ErrArg || o.results != o.zero {
						t.Error(name, l, day, text, o)
					}
				}
			}
		}
	}
}
