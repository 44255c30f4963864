package cord

import (
	"slices"
	"testing"

	"chiti/api"
)

// wildNumbers returns numbers of every kind, most of them invalid.
func wildNumbers() []api.Number {
	l := []api.Number{
		{}, {Den: 1}, {Den: -1}, {Den: 2}, {Den: 1, Terms: make([]api.Term, 1<<16)},
		{Den: 1, Terms: []api.Term{{Coef: 1, Root: 1}, {Coef: 1, Root: 2}, {Coef: 1, Root: 3}}},
		{Den: 1, Terms: []api.Term{{Coef: 1, Root: 2}, {Coef: 1, Root: 1}}},
		{Den: 99999, Terms: []api.Term{{Coef: 100000, Root: 991}, {Coef: -100000, Root: 994}, {Coef: 100000, Root: 995}, {Coef: -99998, Root: 997}}},
		{Den: 99999, Terms: []api.Term{{Coef: -99998, Root: 1}, {Coef: 100000, Root: 2}}},
	}
	for _, n := range extremes() {
		l = append(l, api.Number{Den: n, Terms: []api.Term{{Coef: 1, Root: 1}}}, api.Number{Den: 1, Terms: []api.Term{{Coef: n, Root: 1}}}, api.Number{Den: 3, Terms: []api.Term{{Coef: 1, Root: n}}})
	}
	return l
}

// P1: no function with old fractions panics, and with an error every other result is zero.
func TestWildOlds(t *testing.T) {
	olds := append(append(validOlds(), invalidOlds()...), generated(40, 8, 6, 1000)...)
	for i, o := range append(olds, generated(40, 2, 2, 6)...) {
		if s, e := Format(o); (e != api.OK) != (s == "") || e != Check(o) {
			t.Error("Format", i, s, e)
		}
		if x, e := Value(o); e != api.OK && !isZeroNumber(x) || e == api.OK && !isNumber(x) {
			t.Error("Value", i, x, e)
		}
		candidates := extremes()
		if Check(o) == api.OK {
			candidates = append(candidates, near(o)...)
		}
		for _, n := range candidates {
			if p, e := Extend(o, n); e != api.OK && !isZero(p) || e == api.OK && Check(p) != api.OK {
				t.Error("Extend", i, n, p, e)
			}
			for _, most := range extremes() {
				if p, e := Chain(o, n, most); e != api.OK && !isZero(p) || e == api.OK && Check(p) != api.OK {
					t.Error("Chain", i, n, most, p, e)
				}
			}
		}
	}
}

// P1: no function with numbers panics, and with an error every other result is zero.
func TestWildNumbers(t *testing.T) {
	numbers := wildNumbers()
	for i, x := range numbers {
		for _, n := range extremes() {
			if o, rest, e := Greedy(x, n); e != api.OK && (!isZero(o) || !isZeroNumber(rest)) || e == api.OK && (Check(o) != api.OK || !isNumber(rest)) {
				t.Error("Greedy", i, n, o, rest, e)
			}
			for _, den := range extremes() {
				if low, high, e := Off(x, n, den); e != api.OK && (low != 0 || high != 0) {
					t.Error("Off", i, n, den, low, high, e)
				}
			}
		}
		for k, y := range numbers {
			if is, e := Within(x, 2+k, y); e != api.OK && is {
				t.Error("Within", i, k, is, e)
			}
			pi := api.Between{Low: x, High: y}
			for _, z := range []api.Number{x, y, numbers[(i+k)%len(numbers)], fraction(1, 1)} {
				low, high, e := Circling(z, pi, 1+k)
				least, most, f := Squaring(z, pi, 1+k)
				if e != api.OK && (low != 0 || high != 0) || f != api.OK && (least != 0 || most != 0) {
					t.Error("circles", i, k, low, high, e, least, most, f)
				}
			}
		}
	}
}

// P1: no function with integers panics, and with an error every other result is zero.
func TestWildIntegers(t *testing.T) {
	for _, n := range extremes() {
		for _, m := range extremes() {
			if l, e := Records(n, m); e != api.OK && len(l) != 0 {
				t.Error("Records", n, m, l, e)
			}
			if num, den, e := Nearest(n, m); e != api.OK && (num != 0 || den != 0) {
				t.Error("Nearest", n, m, num, den, e)
			}
			for _, k := range extremes() {
				if order, e := Nearer([2]int{n, m}, [2]int{k, n}); e != api.OK && order != 0 {
					t.Error("Nearer", n, m, k, order, e)
				}
			}
		}
	}
}

// R3: a nil list and an empty one are the same.
func TestNilAndEmpty(t *testing.T) {
	o := api.OldFraction{Whole: 2, Pieces: []api.Piece{}}
	if s, e := Format(o); s != "2" || e != api.OK {
		t.Error(s, e)
	}
	if x, e := Value(o); told(x) != "2" || e != api.OK {
		t.Error(x, e)
	}
	if p, e := Extend(o, 5); !same(p, old(t, "2+1/4")) || e != api.OK {
		t.Error(p, e)
	}
	if p, e := Chain(o, 4, 8); !same(p, o) || e != api.OK {
		t.Error(p, e)
	}
	zero := api.Number{Den: 1, Terms: []api.Term{}}
	if p, rest, e := Greedy(zero, 8); !isZero(p) || told(rest) != "0" || e != api.OK {
		t.Error(p, rest, e)
	}
	if low, high, e := Off(zero, 4, 1); low != -2 || high != -2 || e != api.OK {
		t.Error(low, high, e)
	}
	if is, e := Within(fraction(2, 1), 4, zero); !is || e != api.OK {
		t.Error(is, e)
	}
	if _, _, e := Circling(zero, between(t, "3", "4"), 1); e != api.ErrRange {
		t.Error(e)
	}
	if _, _, e := Squaring(fraction(1, 1), api.Between{Low: zero, High: zero}, 1); e != api.ErrArg {
		t.Error(e)
	}
}

// scribble writes over all that an old fraction refers to, and over the spare room behind it.
func scribble(o api.OldFraction) {
	pieces := o.Pieces[:cap(o.Pieces)]
	for i := range pieces {
		marks := pieces[i].Marks[:cap(pieces[i].Marks)]
		for k := range marks {
			marks[k] = -9
		}
		pieces[i] = api.Piece{Minus: true, Marks: []int{-7}}
	}
}

// R4: no call changes an old fraction, and no result shares memory with it.
func TestMemoryOfOlds(t *testing.T) {
	calls := []func(o api.OldFraction) api.OldFraction{
		func(o api.OldFraction) api.OldFraction { p, _ := Extend(o, 2); return p },
		func(o api.OldFraction) api.OldFraction { p, _ := Extend(o, 3); return p },
		func(o api.OldFraction) api.OldFraction { p, _ := Chain(o, 2, 0); return p },
		func(o api.OldFraction) api.OldFraction { p, _ := Chain(o, 2, 1); return p },
		func(o api.OldFraction) api.OldFraction { p, _ := Chain(o, 2, 8); return p },
		func(o api.OldFraction) api.OldFraction { p, _ := Chain(o, 4, 8); return p },
		func(o api.OldFraction) api.OldFraction { Check(o); Format(o); Value(o); return api.OldFraction{} },
	}
	for i, call := range calls {
		for _, s := range []string{"1", "1+1/3", "1+1/2", "1+1/3+1/3*4", "1+1/3+1/3*4-1/3*4*34", "2", "0"} {
			want := old(t, s)
			o := roomy(want)
			got := call(o)
			if !same(o, want) {
				t.Error("changed", i, s, o)
			}
			again := copied(got)
			for k := range o.Pieces {
				// A result that kept one of these lists would show it.
				slices.Reverse(o.Pieces[k].Marks)
				o.Pieces[k].Marks[0] = 777
			}
			clear(o.Pieces)
			if !same(got, again) {
				t.Error("shared with an argument", i, s, got)
			}
			o = roomy(want)
			scribble(call(o))
			if !same(o, want) {
				t.Error("written through a result", i, s, o)
			}
		}
	}
}

// roomy returns a copy of an old fraction with room behind each list, which an append would take.
func roomy(o api.OldFraction) api.OldFraction {
	p := api.OldFraction{Whole: o.Whole, Pieces: make([]api.Piece, 0, 20)}
	for _, q := range o.Pieces {
		p.Pieces = append(p.Pieces, api.Piece{Minus: q.Minus, Marks: append(make([]int, 0, 20), q.Marks...)})
	}
	return p
}

// R4: the lists of one result are apart from each other.
func TestMemoryOfResults(t *testing.T) {
	o, e := Chain(old(t, "1"), 2, 3)
	if e != api.OK {
		t.Fatal(e)
	}
	for k := range o.Pieces {
		before := copied(o)
		o.Pieces[k].Marks = append(o.Pieces[k].Marks, 5)
		o.Pieces[k].Marks[0] = 9
		for i := range o.Pieces {
			if i != k && !slices.Equal(o.Pieces[i].Marks, before.Pieces[i].Marks) {
				t.Error(k, i, o, before)
			}
		}
	}
	l, _ := Records(2, 100)
	l[0] = 50
	if again, _ := Records(2, 100); again[0] != 1 {
		t.Error(again)
	}
}

// R4: no call changes a number, and no result shares memory with it.
func TestMemoryOfNumbers(t *testing.T) {
	pi := between(t, "223/71", "r10")
	for _, s := range []string{"0", "4/5", "7/3", "5", "(2+r2)/3", "1+r2+r3"} {
		x, want := num(t, s), num(t, s)
		for most := range 3 {
			_, rest, _ := Greedy(x, most)
			for i := range rest.Terms {
				rest.Terms[i] = api.Term{Coef: -9, Root: -9}
			}
		}
		Off(x, 2, 7)
		Within(x, 2, x)
		Circling(x, pi, 7)
		Squaring(x, pi, 7)
		if !sameNumber(x, want) || !sameNumber(pi.Low, num(t, "223/71")) || !sameNumber(pi.High, num(t, "r10")) {
			t.Error(s, x, pi)
		}
	}
	a, b := [2]int{1, 2}, [2]int{-3, 4}
	if Nearer(a, b); a != [2]int{1, 2} || b != [2]int{-3, 4} {
		t.Error(a, b)
	}
}
