package cord

import (
	"math/big"
	"slices"
	"testing"

	"chiti/api"
	"chiti/surd"
)

type extension struct {
	o    string
	n    int
	want string
	e    api.Errno
}

func checkExtend(t *testing.T, cases ...extension) {
	t.Helper()
	for _, c := range cases {
		got, e := Extend(old(t, c.o), c.n)
		s, _ := Format(got)
		if e != c.e || e == api.OK && s != c.want || e != api.OK && !isZero(got) {
			t.Error(c.o, c.n, s, e)
		}
	}
}

// P2.4: corrections, and where their marks end.
func TestExtend(t *testing.T) {
	checkExtend(t, []extension{
		{"1+1/3", 2, "1+1/3+1/3*4", api.OK},
		{"1+1/3+1/3*4", 2, "1+1/3+1/3*4-1/3*4*34", api.OK},
		{"1", 2, "1+1/2", api.OK},
		{"1+1/2", 2, "1+1/2-1/2*6", api.OK},
		{"2", 5, "2+1/4", api.OK},
		{"2", 3, "2-1/4", api.OK},
		{"3", 8, "3-1/6", api.OK},
		{"5", 26, "5+1/10", api.OK},
		{"31", 962, "31+1/62", api.OK},
		// The sign is that of the correction, not that of the piece before.
		{"2-1/2", 2, "2-1/2-1/2*6", api.OK},
		{"2-1/4", 3, "2-1/4-1/4*14", api.OK},
		{"3-1/2-1/4", 5, "3-1/2-1/4-1/4*18", api.OK},
		// The other mark is 2 or more; with 1 it would be the same piece again.
		{"1+1/2", 3, "1+1/2+1/2*2", api.OK},
		{"1+1/4+1/4", 3, "1+1/4+1/4+1/4", api.OK},
		{"1+1/4+1/4", 2, "1+1/4+1/4-1/4*3", api.OK},
		{"1+1/2*2+1/2*2", 2, "1+1/2*2+1/2*2-1/2*2*3", api.OK},
		{"1+1/5-1/5", 2, "1+1/5-1/5+1/2", api.OK},
		{"1+1/24-1/24", 2, "1+1/24-1/24+1/2", api.OK},
		// The other mark is 1000 at most; 4004 is 4 * 1001, but 7 * 572.
		{"9+1/3+1/10+1/53*30+1/53-1/53", 89, "9+1/3+1/10+1/53*30+1/53-1/53+1/53*1000", api.OK},
		{"30+1/2+1/7", 939, "30+1/2+1/7+1/7*572", api.OK},
		{"30+1/2+1/7+1/4-1/4", 939, "", api.ErrOver},
		// A mark alone is 1000 at most, too.
		{"20-1/5+1/7-1/7", 392, "20-1/5+1/7-1/7-1/990", api.OK},
		{"8-1/8", 62, "8-1/8-1/8*126", api.OK},
		{"8-1/8+1/5-1/5", 62, "", api.ErrOver},
		{"1+1/3+1/3*4-1/3*4*34", 2, "", api.ErrOver},
		// Six marks are not too many, seven are, even where 648 alone would be a mark.
		{"20+1/4+1/216-1/6*2*2*3*3", 410, "20+1/4+1/216-1/6*2*2*3*3-1/6*2*2*3*3*3", api.OK},
		{"20+1/4+1/216-1/2*2*2*3*3*3", 410, "", api.ErrOver},
		{"20+1/4+1/648-1/2*2*2*3*3*9", 410, "20+1/4+1/648-1/2*2*2*3*3*9-1/648", api.OK},
	}...)
}

// P2.4: the errors of corrections, and their order.
func TestExtendErrors(t *testing.T) {
	checkExtend(t, []extension{
		// Corrections by 1 / 2, by 1 and by parts that are no 1 / d.
		{"2", 2, "2-1/2", api.OK},
		{"0+1/2", 1, "", api.ErrNone},
		{"1-1/3", 1, "", api.ErrNone},
		{"1+1/3", 1, "", api.ErrNone},
		{"1+1/3", 3, "", api.ErrNone},
		{"1", 3, "", api.ErrNone},
		{"2", 8, "", api.ErrNone},
		{"3", 3, "", api.ErrNone},
		{"1", 4, "", api.ErrNone},
		{"4", 26, "", api.ErrNone},
		{"1000", 999, "", api.ErrNone},
		{"0+1/1000*100", 1000, "", api.ErrNone},
		// Exact roots.
		{"1", 1, "", api.ErrState},
		{"2", 4, "", api.ErrState},
		{"1+1/2+1/3+1/6", 4, "", api.ErrState},
		{"31", 961, "", api.ErrState},
		// Limits of n, and values that are not above 0.
		{"1", 0, "", api.ErrRange},
		{"1", -1, "", api.ErrRange},
		{"32", 1000, "", api.ErrNone},
		{"1", 1001, "", api.ErrRange},
		{"0", 2, "", api.ErrRange},
		{"0-1/2", 2, "", api.ErrRange},
		{"0+1/2-1/2", 2, "", api.ErrRange},
		{"1-1/2-1/2", 1, "", api.ErrRange},
		{"0-1/1000*100", 2, "", api.ErrRange},
		{"0+1/1000*101", 2, "", api.ErrOver},
		{"1000+1/101", 2, "", api.ErrOver},
		// The order of errors.
		{"0+1/1000*101", 0, "", api.ErrRange},
		{"0-1/1000*101", 2, "", api.ErrOver},
		{"1+1/9-1/9+1/9-1/9+1/9-1/9+1/9-1/9", 1, "", api.ErrState},
		{"1+1/9-1/9+1/9-1/9+1/9-1/9+1/9-1/9", 3, "", api.ErrNone},
		{"1+1/9-1/9+1/9-1/9+1/9-1/9+1/9-1/9", 2, "", api.ErrFull},
		{"1+1/9-1/9+1/9-1/9+1/9-1/9+1/9", 10, "", api.ErrNone},
		{"1+1/9-1/9+1/9-1/9+1/9-1/9", 2, "1+1/9-1/9+1/9-1/9+1/9-1/9+1/2", api.OK},
		{"8-1/8+1/5-1/5+1/5-1/5+1/5-1/5", 62, "", api.ErrOver},
		{"8-1/8+1/5-1/5+1/5-1/5+1/10-1/5+1/10", 62, "", api.ErrFull},
	}...)
}

// expected computes with fractions of any size what Extend does with a valid old fraction and a valid n.
func expected(o api.OldFraction, n int) (api.OldFraction, api.Errno) {
	x, ok := exact(o)
	if !ok {
		return api.OldFraction{}, api.ErrOver
	}
	if x.Sign() <= 0 {
		return api.OldFraction{}, api.ErrRange
	}
	c := big.NewRat(int64(n), 1)
	c.Sub(c, new(big.Rat).Mul(x, x))
	c.Quo(c, new(big.Rat).Add(x, x))
	switch {
	case c.Sign() == 0:
		return api.OldFraction{}, api.ErrState
	case c.Num().CmpAbs(big.NewInt(1)) != 0 || c.IsInt():
		return api.OldFraction{}, api.ErrNone
	case len(o.Pieces) >= 8:
		return api.OldFraction{}, api.ErrFull
	}
	marks := []int{int(c.Denom().Int64())}
	if len(o.Pieces) > 0 {
		last := o.Pieces[len(o.Pieces)-1].Marks
		other := pieceValue(piece(last...))
		other.Quo(other, new(big.Rat).Abs(c))
		if other.IsInt() && other.Cmp(big.NewRat(2, 1)) >= 0 && other.Cmp(big.NewRat(1000, 1)) <= 0 {
			marks = append(slices.Clone(last), int(other.Num().Int64()))
		}
	}
	p := copied(o)
	p.Pieces = append(p.Pieces, api.Piece{Minus: c.Sign() < 0, Marks: marks})
	if Check(p) != api.OK {
		return api.OldFraction{}, api.ErrOver
	}
	return p, api.OK
}

// near returns the whole numbers from 1 to 1000 that are nearest to the square of an old fraction.
func near(o api.OldFraction) []int {
	v, _ := exact(o)
	f, _ := v.Float64()
	var l []int
	for n := int(f*f) - 3; n <= int(f*f)+4; n++ {
		if 1 <= n && n <= api.MaxRoot {
			l = append(l, n)
		}
	}
	return l
}

// P2.4: with every kind of result, Extend agrees with what is computed with fractions of any size.
func TestExtendGenerated(t *testing.T) {
	seen := map[api.Errno]int{}
	for _, sizes := range [][3]int{{1, 1, 9}, {1, 2, 30}, {2, 2, 6}, {2, 1, 12}, {3, 1, 6}, {2, 6, 3}, {2, 5, 12}, {8, 1, 3}} {
		for _, o := range generated(600, sizes[0], sizes[1], sizes[2]) {
			for _, n := range near(o) {
				want, f := expected(o, n)
				got, e := Extend(o, n)
				seen[e]++
				if e != f || !same(got, want) {
					t.Error(o, n, got, e, want, f)
				}
			}
		}
	}
	for _, e := range []api.Errno{api.OK, api.ErrRange, api.ErrState, api.ErrNone, api.ErrFull, api.ErrOver} {
		if seen[e] < 10 {
			t.Error("only so often tried:", e, seen[e])
		}
	}
}

// P2.13: a corrected value has a square above n, and is off the root by the square of what the one before was off, divided by twice this one.
func TestExtendLaws(t *testing.T) {
	count := 0
	for _, sizes := range [][3]int{{0, 1, 2}, {1, 1, 9}, {1, 2, 6}, {2, 1, 12}} {
		for _, o := range generated(300, sizes[0], sizes[1], sizes[2]) {
			for _, n := range near(o) {
				longer, e := Extend(o, n)
				if e != api.OK {
					continue
				}
				x, _ := exact(o)
				y, ok := exact(longer)
				if !ok {
					continue
				}
				count++
				checkCorrection(t, x, y, n)
			}
		}
	}
	if count < 200 {
		t.Error("only so many were tried:", count)
	}
}

func checkCorrection(t *testing.T, x, y *big.Rat, n int) {
	t.Helper()
	if new(big.Rat).Mul(y, y).Cmp(big.NewRat(int64(n), 1)) <= 0 {
		t.Error("a square that is not above n", x, y, n)
	}
	value := func(r *big.Rat) *big.Float { return float(0).SetRat(r) }
	before := value(x)
	before.Sub(before, rootOf(n))
	after := value(y)
	after.Sub(after, rootOf(n))
	want := before.Mul(before, before)
	want.Quo(want, value(new(big.Rat).Add(x, x)))
	if d := want.Sub(want, after); d.Sign() != 0 && d.MantExp(nil) > -precision/2 {
		t.Error("another distance", x, y, n)
	}
}

// P2.13: the chapter's chain, as numbers of surd.
func TestCorrectionInSurd(t *testing.T) {
	root := num(t, "r2")
	for _, c := range [][2]string{{"1", "1+1/2"}, {"1+1/3", "1+1/3+1/3*4"}, {"2", "2-1/2"}} {
		x, _ := Value(old(t, c[0]))
		y, _ := Value(old(t, c[1]))
		before, _ := surd.Sub(x, root)
		after, _ := surd.Sub(y, root)
		square, _ := surd.Mul(before, before)
		twice, _ := surd.Add(x, x)
		if want, e := surd.Quo(square, twice); e != api.OK || !sameNumber(after, want) {
			t.Error(c, told(after), told(want), e)
		}
	}
}

// P2.5: chains.
func TestChain(t *testing.T) {
	for _, c := range []struct {
		o       string
		n, most int
		want    string
	}{
		{"1+1/3", 2, 0, "1+1/3"},
		{"1+1/3", 2, 1, "1+1/3+1/3*4"},
		{"1+1/3", 2, 2, "1+1/3+1/3*4-1/3*4*34"},
		{"1+1/3", 2, 8, "1+1/3+1/3*4-1/3*4*34"},
		{"1", 2, 1, "1+1/2"},
		{"1", 2, 2, "1+1/2-1/2*6"},
		{"1", 2, 3, "1+1/2-1/2*6-1/2*6*34"},
		{"1", 2, 4, "1+1/2-1/2*6-1/2*6*34"},
		{"2", 5, 8, "2+1/4-1/4*18-1/4*18*322"},
		{"1", 1, 8, "1"},
		// What can not be extended at all stays as it is.
		{"1", 3, 5, "1"},
		{"2", 4, 5, "2"},
		{"0", 2, 8, "0"},
		{"0-1/2", 2, 8, "0-1/2"},
		{"0+1/1000*101", 2, 8, "0+1/1000*101"},
		{"1+1/9-1/9+1/9-1/9+1/9-1/9+1/9-1/9", 2, 8, "1+1/9-1/9+1/9-1/9+1/9-1/9+1/9-1/9"},
		{"1+1/9-1/9+1/9-1/9+1/9-1/9", 2, 8, "1+1/9-1/9+1/9-1/9+1/9-1/9+1/2-1/2*6"},
		{"32", 1000, 8, "32"},
	} {
		o, e := Chain(old(t, c.o), c.n, c.most)
		if s, _ := Format(o); s != c.want || e != api.OK {
			t.Error(c.o, c.n, c.most, s, e)
		}
	}
	for _, c := range [][2]int{{0, 1}, {1001, 1}, {-1, 1}, {2, -1}, {2, 9}, {0, 9}} {
		if o, e := Chain(old(t, "1+1/3"), c[0], c[1]); e != api.ErrRange || !isZero(o) {
			t.Error(c, o, e)
		}
		// Its own errors come although nothing could be extended.
		if o, e := Chain(old(t, "0+1/1000*101"), c[0], c[1]); e != api.ErrRange || !isZero(o) {
			t.Error(c, o, e)
		}
	}
}

// P2.5: a chain is what Extend does again and again.
func TestChainIsExtendAgain(t *testing.T) {
	lengths := map[int]int{}
	for _, o := range generated(300, 2, 1, 9) {
		for _, n := range near(o) {
			want := copied(o)
			for most := range 9 {
				got, e := Chain(o, n, most)
				if e != api.OK || !same(got, want) {
					t.Error(o, n, most, got, e, want)
				}
				if longer, e := Extend(want, n); e == api.OK {
					want = longer
				}
			}
			lengths[len(want.Pieces)-len(o.Pieces)]++
		}
	}
	if len(lengths) < 3 {
		t.Error("only so many lengths:", lengths)
	}
}

// P2.6: greatest pieces, and what is left.
func TestGreedy(t *testing.T) {
	for _, c := range []struct {
		x    string
		most int
		want string
		rest string
	}{
		{"4/5", 8, "0+1/2+1/4+1/20", "0"},
		{"4/5", 3, "0+1/2+1/4+1/20", "0"},
		{"4/5", 2, "0+1/2+1/4", "1/20"},
		{"4/5", 1, "0+1/2", "3/10"},
		{"4/5", 0, "0", "4/5"},
		{"7/3", 8, "2+1/3", "0"},
		{"1/2", 8, "0+1/2", "0"},
		{"3/2", 8, "1+1/2", "0"},
		{"2/3", 8, "0+1/2+1/6", "0"},
		{"0", 8, "0", "0"},
		{"0", 0, "0", "0"},
		{"5", 8, "5", "0"},
		{"1000", 0, "1000", "0"},
		{"1000", 8, "1000", "0"},
		{"99999/100", 1, "999+1/2", "49/100"},
		// 1000 is a mark, 1001 is none.
		{"1/1000", 8, "0+1/1000", "0"},
		{"1/1001", 8, "0", "1/1001"},
		{"2/1999", 8, "0", "2/1999"},
		{"1/999", 8, "0+1/999", "0"},
		{"501/1000", 8, "0+1/2+1/1000", "0"},
		{"1003/2002", 8, "0+1/2", "1/1001"},
		{"1/100000", 8, "0", "1/100000"},
		// What would be left is no number: 5/121 - 1/25 - 1/757, and 99999/100000 - 1/2 - 1/3.
		{"5/121", 8, "0+1/25", "4/3025"},
		{"99999/100000", 8, "0+1/2", "49999/100000"},
	} {
		o, rest, e := Greedy(num(t, c.x), c.most)
		if s, _ := Format(o); s != c.want || told(rest) != c.rest || e != api.OK {
			t.Error(c.x, c.most, s, told(rest), e)
		}
	}
}

// P2.6: the errors of Greedy.
func TestGreedyErrors(t *testing.T) {
	for _, c := range []struct {
		x    string
		most int
		e    api.Errno
	}{
		{"no", 1, api.ErrArg},
		{"no", 9, api.ErrArg},
		{"no", -1, api.ErrArg},
		{"r2", 1, api.ErrRange},
		{"1+r2", 1, api.ErrRange},
		{"-1+r2", 1, api.ErrRange},
		{"(1+r5)/2", 9, api.ErrRange},
		{"-1/2", 1, api.ErrRange},
		{"-1/100000", 1, api.ErrRange},
		{"-1", 1, api.ErrRange},
		{"1001", 1, api.ErrRange},
		{"100000", 1, api.ErrRange},
		{"100000/99", 1, api.ErrRange},
		{"99098/99", 1, api.OK},
		{"99100/99", 1, api.ErrRange},
		{"1", -1, api.ErrRange},
		{"1", 9, api.ErrRange},
		{"1", 8, api.OK},
		{"1", 0, api.OK},
	} {
		o, rest, e := Greedy(anyNum(t, c.x), c.most)
		if e != c.e || e != api.OK && (!isZero(o) || !isZeroNumber(rest)) {
			t.Error(c.x, c.most, o, rest, e)
		}
	}
}

// P2.6, P2.13: each piece is the greatest one, and less than the one before; it ends only where it must; pieces and rest are the number.
func TestGreedyLaws(t *testing.T) {
	next := pseudo()
	for i := range 3000 {
		den := 1 + next([]int{20, 1000, api.MaxDen}[i%3])
		x, e := surd.Make(den, []api.Term{{Coef: next(min(1001*den, api.MaxCoef+1)), Root: 1}})
		if e != api.OK {
			t.Fatal(e)
		}
		most := next(9)
		o, rest, e := Greedy(x, most)
		left := rational(t, x)
		if e != api.OK || Check(o) != api.OK || !isNumber(rest) || len(o.Pieces) > most {
			t.Fatal(told(x), most, o, rest, e)
		}
		left.Sub(left, big.NewRat(int64(o.Whole), 1))
		if left.Sign() < 0 || left.Cmp(big.NewRat(1, 1)) >= 0 {
			t.Error("another whole number", told(x), o)
		}
		last := 1
		for _, p := range o.Pieces {
			mark := greatestMark(left)
			if p.Minus || len(p.Marks) != 1 || p.Marks[0] != mark || mark <= last {
				t.Error("another piece", told(x), o, left)
			}
			left.Sub(left, big.NewRat(1, int64(mark)))
			last = mark
		}
		if left.Cmp(rational(t, rest)) != 0 {
			t.Error("another rest", told(x), o, told(rest))
		}
		if len(o.Pieces) < most && goesOn(left) {
			t.Error("it ends too early", told(x), o, told(rest))
		}
	}
}

// greatestMark returns the least d of at least 2 for which 1 / d is not above what is left.
func greatestMark(left *big.Rat) int {
	d := 2
	for d <= api.MaxMark && big.NewRat(1, int64(d)).Cmp(left) > 0 {
		d++
	}
	return d
}

// goesOn reports whether there is a further piece, with a mark within the limit, and what is left behind it is a number.
func goesOn(left *big.Rat) bool {
	d := greatestMark(left)
	return left.Sign() > 0 && d <= api.MaxMark && isNumberValue(new(big.Rat).Sub(left, big.NewRat(1, int64(d))))
}
