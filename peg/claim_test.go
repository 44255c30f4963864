package peg

import (
	"slices"
	"testing"

	"chiti/api"
	"chiti/surd"
)

func claim(kind api.ClaimKind, pegs ...int) api.PegClaim {
	return api.PegClaim{Kind: kind, Pegs: pegs}
}

func areaClaim(t *testing.T, value string, pegs ...int) api.PegClaim {
	t.Helper()
	return api.PegClaim{Kind: api.ClaimArea, Pegs: pegs, Value: num(t, value)}
}

func nearClaim(t *testing.T, value, bound string, pegs ...int) api.PegClaim {
	t.Helper()
	return api.PegClaim{Kind: api.ClaimNear, Pegs: pegs, Value: num(t, value), Bound: num(t, bound)}
}

func sameClaim(pegs, more []int) api.PegClaim {
	return api.PegClaim{Kind: api.ClaimSame, Pegs: pegs, More: more}
}

// P3.3: which claims hold.
func TestHolds(t *testing.T) {
	pegs := ats(t, "0 0", "1 0", "0 1", "2 0", "1/2 r3/2", "2 2", "r2 0", "-1 -1", "2 1+r2", "0 0")
	for i, c := range []struct {
		c    api.PegClaim
		want bool
	}{
		{claim(api.ClaimEqual, 0, 1, 0, 4), true},
		{claim(api.ClaimEqual, 0, 1, 4, 1), true},
		{claim(api.ClaimEqual, 1, 2, 0, 6), true},
		{claim(api.ClaimEqual, 1, 2, 6, 0), true},
		{claim(api.ClaimEqual, 1, 2, 0, 4), false},
		{claim(api.ClaimEqual, 0, 1, 0, 3), false},
		{claim(api.ClaimEqual, 0, 1, 1, 0), true},
		{claim(api.ClaimEqual, 3, 3, 0, 9), true},
		{claim(api.ClaimEqual, 0, 0, 0, 1), false},
		// The right angle is at the second peg.
		{claim(api.ClaimRight, 1, 0, 2), true},
		{claim(api.ClaimRight, 2, 0, 1), true},
		{claim(api.ClaimRight, 0, 1, 2), false},
		{claim(api.ClaimRight, 0, 2, 1), false},
		{claim(api.ClaimRight, 0, 3, 5), true},
		{claim(api.ClaimRight, 1, 3, 8), true},
		{claim(api.ClaimRight, 0, 4, 1), false},
		{claim(api.ClaimRight, 0, 0, 2), true},
		{claim(api.ClaimRight, 0, 9, 2), true},
		{claim(api.ClaimRight, 0, 1, 3), false},
		{claim(api.ClaimLine, 0, 3, 1), true},
		{claim(api.ClaimLine, 7, 5, 9), true},
		{claim(api.ClaimLine, 1, 2, 0), false},
		{claim(api.ClaimLine, 0, 1, 2), false},
		{claim(api.ClaimLine, 0, 0, 2), true},
		{claim(api.ClaimLine, 4, 5, 4), true},
		{claim(api.ClaimLine, 0, 1, 6), true},
		{areaClaim(t, "r3/4", 0, 1, 4), true},
		{areaClaim(t, "r3/4", 0, 4, 1), true},
		{areaClaim(t, "r3/2", 0, 1, 4), false},
		{areaClaim(t, "-r3/4", 0, 4, 1), false},
		{areaClaim(t, "0", 0, 1, 3), true},
		{areaClaim(t, "2", 0, 3, 5), true},
		{areaClaim(t, "1+r2", 0, 3, 8), true},
		{areaClaim(t, "3", 0, 3, 5, 2), true},
		{nearClaim(t, "433/1000", "1/10000", 0, 1, 4), true},
		{nearClaim(t, "217/500", "1/10000", 0, 1, 4), false},
		{nearClaim(t, "217/500", "1/1000", 0, 1, 4), true},
		{nearClaim(t, "217/500", "-1", 0, 1, 4), false},
		{nearClaim(t, "2", "0", 0, 3, 5), true},
		{nearClaim(t, "2", "-1/100000", 0, 3, 5), false},
		{nearClaim(t, "3/2", "1/2", 0, 3, 5), true},
		{nearClaim(t, "5/2", "1/2", 0, 3, 5), true},
		{nearClaim(t, "5/2", "49999/100000", 0, 3, 5), false},
		{nearClaim(t, "3/2", "49999/100000", 0, 3, 5), false},
		{nearClaim(t, "-2", "4", 5, 3, 0), true},
		{nearClaim(t, "-2", "3", 5, 3, 0), false},
		{sameClaim([]int{0, 1, 2}, []int{1, 3, 2}), true},
		{sameClaim([]int{0, 1, 2}, []int{2, 3, 1}), true},
		{sameClaim([]int{0, 1, 2}, []int{0, 3, 5}), false},
		{sameClaim([]int{0, 3, 5}, []int{0, 1, 2}), false},
		{sameClaim([]int{0, 1, 3}, []int{3, 1, 0, 3, 3}), true},
		{sameClaim([]int{0, 3, 5, 2}, []int{0, 3, 5}), false},
	} {
		if holds, e := Holds(pegs, c.c); holds != c.want || e != api.OK {
			t.Error(i, c.c, holds, e)
		}
	}
}

// P3.3: how many numbers a claim of each kind has.
func TestCountsOfClaims(t *testing.T) {
	pegs := ats(t, "0 0", "1 0")
	for kind := api.ClaimKind(-1); kind <= 8; kind++ {
		for count := range 23 {
			for more := range 23 {
				c := api.PegClaim{Kind: kind, Pegs: make([]int, count), More: make([]int, more)}
				polygon := 3 <= count && count <= 20
				want := map[api.ClaimKind]bool{
					api.ClaimEqual: count == 4 && more == 0,
					api.ClaimRight: count == 3 && more == 0,
					api.ClaimLine:  count == 3 && more == 0,
					api.ClaimArea:  polygon && more == 0,
					api.ClaimNear:  polygon && more == 0,
					api.ClaimSame:  polygon && 3 <= more && more <= 20,
				}[kind]
				if kind == api.ClaimArea || kind == api.ClaimNear {
					c.Value = num(t, "0")
				}
				if kind == api.ClaimNear {
					c.Bound = num(t, "0")
				}
				wantError := api.ErrForm
				if want {
					wantError = api.OK
				}
				if holds, e := Holds(pegs, c); holds != want || e != wantError {
					t.Error(c, holds, e)
				}
			}
		}
	}
}

// P3.3: which numbers a claim of each kind has beside the pegs.
func TestNumbersOfClaims(t *testing.T) {
	pegs := ats(t, "0 0", "1 0")
	valid := []api.Number{num(t, "0"), {Den: 1, Terms: []api.Term{}}, num(t, "5"), num(t, "1+r2")}
	none := []api.Number{{}, {Terms: []api.Term{}}}
	other := []api.Number{{Den: 2}, {Den: -1}, {Terms: []api.Term{{Coef: 1, Root: 1}}}, {Den: 1, Terms: []api.Term{{}}}}
	all := slices.Concat(valid, none, other)
	isValid := func(i int) bool { return i < len(valid) }
	isNone := func(i int) bool { return len(valid) <= i && i < len(valid)+len(none) }
	for kind := api.ClaimKind(0); kind <= 7; kind++ {
		for i, value := range all {
			for k, bound := range all {
				c := api.PegClaim{Kind: kind, Pegs: make([]int, 3), Value: value, Bound: bound}
				formed := isNone(i) && isNone(k)
				switch kind {
				case 0, 7:
					formed = false
				case api.ClaimEqual:
					c.Pegs = make([]int, 4)
				case api.ClaimArea:
					formed = isValid(i) && isNone(k)
				case api.ClaimNear:
					formed = isValid(i) && isValid(k)
				case api.ClaimSame:
					c.More = make([]int, 3)
				}
				if holds, e := Holds(pegs, c); (e == api.OK) != formed || !formed && (e != api.ErrForm || holds) {
					t.Error(c, holds, e)
				}
			}
		}
	}
}

// P3.3: what Holds refuses, and in which order.
func TestHoldsErrors(t *testing.T) {
	zeros := func(n int) []api.Point { return slices.Repeat(ats(t, "0 0"), n) }
	good := claim(api.ClaimLine, 0, 0, 0)
	for i, c := range []struct {
		pegs []api.Point
		c    api.PegClaim
		want bool
		e    api.Errno
	}{
		{make([]api.Point, 43), api.PegClaim{}, false, api.ErrLong},
		{zeros(43), good, false, api.ErrLong},
		{zeros(42), good, true, api.OK},
		{zeros(42), claim(api.ClaimLine, 41, 40, 39), true, api.OK},
		{zeros(42), claim(api.ClaimLine, 42, 40, 39), false, api.ErrNone},
		{make([]api.Point, 42), api.PegClaim{}, false, api.ErrArg},
		{ats(t, "0 0", "0 no"), good, false, api.ErrArg},
		{ats(t, "0 0", "no 0"), claim(api.ClaimLine, 9, 9), false, api.ErrArg},
		{zeros(1), claim(api.ClaimLine, 9, 9), false, api.ErrForm},
		{zeros(1), claim(7, 0, 0, 0), false, api.ErrForm},
		{nil, claim(0), false, api.ErrForm},
		{nil, good, false, api.ErrNone},
		{zeros(2), claim(api.ClaimLine, 0, 1, 2), false, api.ErrNone},
		{zeros(2), claim(api.ClaimLine, 0, -1, 1), false, api.ErrNone},
		{zeros(2), claim(api.ClaimEqual, 2, 0, 1, 1), false, api.ErrNone},
		{zeros(2), sameClaim([]int{0, 1, 1}, []int{0, 2, 1}), false, api.ErrNone},
		{zeros(2), sameClaim([]int{0, 1, 1}, []int{0, -1, 1}), false, api.ErrNone},
		{zeros(2), sameClaim([]int{0, 1, 2}, []int{0, 1, 1}), false, api.ErrNone},
		{zeros(2), sameClaim([]int{0, 1, 1}, []int{1, 0, 1}), true, api.OK},
		// What is not there is named ahead of the errors of chapter 1.
		{ats(t, "0 0", "1000 0"), claim(api.ClaimEqual, 0, 1, 0, 2), false, api.ErrNone},
		{ats(t, "1000 1000", "0 0"), sameClaim([]int{0, 0, 0}, []int{0, 1, 2}), false, api.ErrNone},
		// Of two squares or areas, that of the first pegs comes first.
		{ats(t, "0 0", "1000 0", "1+r2+r3+r5 0"), claim(api.ClaimEqual, 0, 1, 0, 2), false, api.ErrOver},
		{ats(t, "0 0", "1000 0", "1+r2+r3+r5 0"), claim(api.ClaimEqual, 0, 2, 0, 1), false, api.ErrFull},
		{ats(t, "0 0", "1000 0", "1+r2+r3+r5 0"), claim(api.ClaimEqual, 0, 0, 0, 1), false, api.ErrOver},
		{ats(t, "0 0", "1000 1000", "1+r2+r3 r5+r6+r7"), sameClaim([]int{0, 0, 1, 1}, []int{2, 2, 2}), false, api.ErrOver},
		{ats(t, "0 0", "1000 1000", "1+r2+r3 r5+r6+r7"), sameClaim([]int{2, 2, 2}, []int{0, 1, 1}), false, api.ErrFull},
		{ats(t, "0 0", "1000 1000", "1+r2+r3 r5+r6+r7"), sameClaim([]int{0, 0, 0}, []int{0, 1, 1}), false, api.ErrOver},
		// Of the differences of a right angle, that of the first peg comes first; likewise on a line that to the second one.
		{ats(t, "100000 0", "-1+r2 0", "1+r3+r5+r6 0"), claim(api.ClaimRight, 0, 1, 2), false, api.ErrOver},
		{ats(t, "100000 0", "-1+r2 0", "1+r3+r5+r6 0"), claim(api.ClaimRight, 2, 1, 0), false, api.ErrFull},
		{ats(t, "100000 0", "-1+r2 0", "1+r3+r5+r6 0"), claim(api.ClaimLine, 1, 0, 2), false, api.ErrOver},
		{ats(t, "100000 0", "-1+r2 0", "1+r3+r5+r6 0"), claim(api.ClaimLine, 1, 2, 0), false, api.ErrFull},
		{ats(t, "100000 1", "0 0", "1 1"), claim(api.ClaimRight, 0, 1, 0), false, api.ErrOver},
		{ats(t, "100000 1", "0 0", "2 2"), claim(api.ClaimLine, 1, 0, 2), false, api.ErrOver},
		{ats(t, "0 0", "1000 0", "0 1000"), areaClaim(t, "1", 0, 1, 2), false, api.ErrOver},
		{ats(t, "0 0", "1000 0", "0 1000"), nearClaim(t, "1", "1", 0, 1, 2), false, api.ErrOver},
		{ats(t, "0 0", "200 0", "0 200"), nearClaim(t, "-90000", "1", 0, 1, 2), false, api.ErrOver},
		{ats(t, "0 0", "2+r2+r3+r5 0", "0 2"), nearClaim(t, "r6", "1", 0, 1, 2), false, api.ErrFull},
	} {
		if holds, e := Holds(c.pegs, c.c); holds != c.want || e != c.e {
			t.Error(i, holds, e)
		}
	}
}

// holdsAsTold returns whether a claim holds, as the chapter tells it; it stops at an error by a panic with it.
func holdsAsTold(l []api.Point, c api.PegClaim) (holds bool) {
	p := func(i int) api.Point { return l[c.Pegs[i]] }
	var corners, more []api.Point
	for _, n := range c.Pegs {
		corners = append(corners, l[n])
	}
	for _, n := range c.More {
		more = append(more, l[n])
	}
	switch c.Kind {
	case api.ClaimEqual:
		first, second := squareOf(p(0), p(1)), squareOf(p(2), p(3))
		return same(first, second)
	case api.ClaimRight:
		a := difference(p(0), p(1))
		b := difference(p(2), p(1))
		return sign(dotOf(a, b)) == 0
	case api.ClaimLine:
		a := difference(p(1), p(0))
		b := difference(p(2), p(0))
		return sign(crossOf(a, b)) == 0
	case api.ClaimArea:
		return same(areaOf(corners...), c.Value)
	case api.ClaimSame:
		first, second := areaOf(corners...), areaOf(more...)
		return same(first, second)
	}
	off := must(surd.Sub(areaOf(corners...), c.Value))
	if sign(off) < 0 {
		off = must(surd.Sub(api.Number{Den: 1}, off))
	}
	order, _ := surd.Compare(off, c.Bound)
	return order <= 0
}

func someClaim(next func(n int) int, pegs, size int) api.PegClaim {
	c := api.PegClaim{Kind: api.ClaimKind(1 + next(6))}
	count := []int{4, 3, 3, 3 + next(3), 3 + next(3), 3 + next(3)}[c.Kind-1]
	for range count {
		c.Pegs = append(c.Pegs, next(pegs))
	}
	if c.Kind == api.ClaimSame {
		for range 3 + next(2) {
			c.More = append(c.More, next(pegs))
		}
	}
	if c.Kind == api.ClaimArea || c.Kind == api.ClaimNear {
		c.Value = someNumber(next, next(3), size)
	}
	if c.Kind == api.ClaimNear {
		c.Bound = someNumber(next, next(3), size)
	}
	return c
}

// P3.3: claims about pegs with numbers of all sizes hold, or have an error, as told.
func TestHoldsAsTold(t *testing.T) {
	next := pseudo()
	type seen struct {
		kind  api.ClaimKind
		holds bool
		e     api.Errno
	}
	count := map[seen]int{}
	for i := range 40000 {
		size := []int{1, 1, 2, 2, 30, 100, 1000, 100000}[i%8]
		l := somePoints(next, 3+next(3), i%4, size)
		c := someClaim(next, len(l), size)
		holds, e := Holds(l, c)
		want := false
		wantError := caught(func() { want = holdsAsTold(l, c) })
		if holds != want || e != wantError {
			t.Error(l, c, holds, e, want, wantError)
		}
		count[seen{c.Kind, holds, e}]++
	}
	for kind := api.ClaimEqual; kind <= api.ClaimSame; kind++ {
		for _, s := range []seen{{kind, true, api.OK}, {kind, false, api.OK}, {kind, false, api.ErrOver}, {kind, false, api.ErrFull}} {
			if count[s] < 50 {
				t.Error("only so many were tried:", s, count[s])
			}
		}
	}
}

// P3.4: the first claim that does not hold, and the errors with the step or the claim.
func TestVerify(t *testing.T) {
	text := "line 0 1,gnomon 0 0,circle 0 0 1,cut 1 0 1,mark 0 1 1000/1,"
	yes, no := claim(api.ClaimEqual, 0, 1, 0, 2), claim(api.ClaimLine, 0, 1, 2)
	absent, formless, great := claim(api.ClaimLine, 0, 1, 4), claim(api.ClaimLine, 0), claim(api.ClaimEqual, 0, 3, 0, 3)
	all := func(n int, c api.PegClaim) []api.PegClaim { return slices.Repeat([]api.PegClaim{c}, n) }
	for i, c := range []struct {
		p, q, text string
		claims     []api.PegClaim
		at         int
		e          api.Errno
	}{
		{"0 0", "1 0", text, nil, -1, api.OK},
		{"0 0", "1 0", text, all(1, yes), -1, api.OK},
		{"0 0", "1 0", text, all(40, yes), -1, api.OK},
		{"0 0", "1 0", text, all(1, no), 0, api.OK},
		{"0 0", "1 0", text, append(all(39, yes), no), 39, api.OK},
		{"0 0", "1 0", text, []api.PegClaim{yes, no, yes, no}, 1, api.OK},
		{"0 0", "1 0", text, []api.PegClaim{no, no}, 0, api.OK},
		// An error is returned also behind a claim that does not hold; the first claim with one decides.
		{"0 0", "1 0", text, []api.PegClaim{no, yes, absent, formless}, 2, api.ErrNone},
		{"0 0", "1 0", text, []api.PegClaim{yes, formless, absent}, 1, api.ErrForm},
		{"0 0", "1 0", text, []api.PegClaim{no, great}, 1, api.ErrOver},
		{"0 0", "1 0", text, []api.PegClaim{great, absent, formless}, 0, api.ErrOver},
		{"0 0", "1 0", "", []api.PegClaim{claim(api.ClaimLine, 0, 1, 1), claim(api.ClaimLine, 0, 1, 2)}, 1, api.ErrNone},
		{"0 0", "1 0", "", []api.PegClaim{claim(api.ClaimLine, 0, 1, 1)}, -1, api.OK},
		// The number of claims, then the errors of the construction, then those of the claims.
		{"no 0", "1 0", text, all(41, formless), 0, api.ErrLong},
		{"no 0", "1 0", text, all(40, formless), 0, api.ErrArg},
		{"1 0", "1 0", text, all(1, formless), 0, api.ErrTwice},
		{"0 0", "1 0", "line 0 1,line 0 0,", all(1, formless), 1, api.ErrTwice},
		{"0 0", "1 0", "line 0 1,gnomon 0 0,cross 0 2,", nil, 2, api.ErrNone},
		{"0 0", "1000 0", "line 0 1,circle 0 0 1,", all(3, no), 1, api.ErrOver},
	} {
		if at, e := Verify(pair(t, c.p, c.q), steps(t, c.text), c.claims); at != c.at || e != c.e {
			t.Error(i, at, e)
		}
	}
	if at, e := Verify(unit(t), make([]api.PegStep, api.MaxSteps+1), nil); at != 0 || e != api.ErrLong {
		t.Error(at, e)
	}
	if at, e := Verify(unit(t), []api.PegStep{{Kind: api.PegLine, B: 1}, {}}, nil); at != 1 || e != api.ErrForm {
		t.Error(at, e)
	}
}

// P3.4: Verify returns what Run and then Holds of each claim tell.
func TestVerifyAsTold(t *testing.T) {
	next := pseudo()
	count := map[api.Errno]int{}
	for range 2000 {
		start := [2]api.Point{somePoint(next, 2, 2), somePoint(next, 1, 2)}
		if samePoint(start[0], start[1]) {
			continue
		}
		l := construction(next, start, 4)
		pegs, _, _ := Run(start, l)
		var claims []api.PegClaim
		for range next(4) {
			c := someClaim(next, len(pegs), 2)
			if next(6) == 0 {
				c.Pegs[next(len(c.Pegs))] = len(pegs)
			}
			claims = append(claims, c)
		}
		want, wantError := -1, api.OK
		for i, c := range claims {
			holds, e := Holds(pegs, c)
			if e != api.OK {
				want, wantError = i, e
				break
			}
			if !holds && want < 0 {
				want = i
			}
		}
		if at, e := Verify(start, l, claims); at != want || e != wantError {
			t.Error(start, l, claims, at, e, want, wantError)
		}
		count[wantError]++
	}
	if count[api.OK] < 500 || count[api.ErrNone] < 100 {
		t.Error("only so many were tried:", count)
	}
}
