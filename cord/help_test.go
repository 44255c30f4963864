package cord

import (
	"math"
	"math/big"
	"slices"
	"testing"

	"chiti/api"
	"chiti/surd"
)

const precision = 400 // bits of the approximations that results are held against

// num returns the number of a text.
func num(t *testing.T, s string) api.Number {
	t.Helper()
	x, e := surd.Parse(s)
	if e != api.OK {
		t.Fatalf("surd.Parse(%q): error %d", s, e)
	}
	return x
}

// anyNum returns the number of a text, and an invalid one for the text no.
func anyNum(t *testing.T, s string) api.Number {
	t.Helper()
	if s == "no" {
		return api.Number{Den: 2}
	}
	return num(t, s)
}

func told(x api.Number) string {
	s, _ := surd.Format(x)
	return s
}

// old returns the old fraction of a text.
func old(t *testing.T, s string) api.OldFraction {
	t.Helper()
	o, e := Parse(s)
	if e != api.OK {
		t.Fatalf("Parse(%q): error %d", s, e)
	}
	return o
}

func piece(marks ...int) api.Piece { return api.Piece{Marks: marks} }

func less(marks ...int) api.Piece { return api.Piece{Minus: true, Marks: marks} }

func same(o, p api.OldFraction) bool {
	return o.Whole == p.Whole && slices.EqualFunc(o.Pieces, p.Pieces, func(a, b api.Piece) bool {
		return a.Minus == b.Minus && slices.Equal(a.Marks, b.Marks)
	})
}

func sameNumber(x, y api.Number) bool { return x.Den == y.Den && slices.Equal(x.Terms, y.Terms) }

func isZero(o api.OldFraction) bool { return o.Whole == 0 && len(o.Pieces) == 0 }

func isZeroNumber(x api.Number) bool { return x.Den == 0 && len(x.Terms) == 0 }

// rational returns the value of a number that is a fraction.
func rational(t *testing.T, x api.Number) *big.Rat {
	t.Helper()
	total := new(big.Rat)
	for _, u := range x.Terms {
		if u.Root != 1 {
			t.Fatal("no fraction", x)
		}
		total.Add(total, big.NewRat(int64(u.Coef), int64(x.Den)))
	}
	return total
}

func pieceValue(p api.Piece) *big.Rat {
	v := big.NewRat(1, 1)
	for _, mark := range p.Marks {
		v.Quo(v, big.NewRat(int64(mark), 1))
	}
	if p.Minus {
		v.Neg(v)
	}
	return v
}

// exact returns the value of an old fraction, and whether each of its pieces and of its partial sums is within the limits of numbers.
func exact(o api.OldFraction) (v *big.Rat, ok bool) {
	v, ok = big.NewRat(int64(o.Whole), 1), true
	for _, p := range o.Pieces {
		part := pieceValue(p)
		v.Add(v, part)
		ok = ok && part.Denom().Cmp(big.NewInt(api.MaxDen)) <= 0 && isNumberValue(v)
	}
	return v, ok
}

func isNumberValue(v *big.Rat) bool {
	return v.Denom().Cmp(big.NewInt(api.MaxDen)) <= 0 && v.Num().CmpAbs(big.NewInt(api.MaxCoef)) <= 0
}

func float(n int) *big.Float { return new(big.Float).SetPrec(precision).SetInt64(int64(n)) }

func rootOf(n int) *big.Float { return new(big.Float).SetPrec(precision).Sqrt(float(n)) }

// approximate returns a number's value, much more exactly than two numbers can be near to each other in these tests.
func approximate(x api.Number) *big.Float {
	total := float(0)
	for _, u := range x.Terms {
		total.Add(total, new(big.Float).Mul(rootOf(u.Root), float(u.Coef)))
	}
	return total.Quo(total, float(x.Den))
}

// pseudo returns a function that yields integers from 0 to below n, the same ones in every run.
func pseudo() func(n int) int {
	state := uint64(88172645463325252)
	return func(n int) int {
		state ^= state << 13
		state ^= state >> 7
		state ^= state << 17
		return int(state % uint64(n))
	}
}

// generated returns old fractions with up to so many pieces and marks, the marks up to a greatest one.
func generated(count, pieces, marks, greatest int) []api.OldFraction {
	next := pseudo()
	var l []api.OldFraction
	for range count {
		o := api.OldFraction{Whole: next(40)}
		for range next(pieces + 1) {
			p := api.Piece{Minus: next(2) == 0}
			for range 1 + next(marks) {
				p.Marks = append(p.Marks, 2+next(greatest-1))
			}
			o.Pieces = append(o.Pieces, p)
		}
		l = append(l, o)
	}
	return l
}

func extremes() []int {
	return []int{math.MinInt, math.MinInt + 1, -100001, -1, 0, 1, 2, 8, 9, 1000, 1001, 3000, 3001, 100000, 1000000000, 1000000001, math.MaxInt - 1, math.MaxInt}
}

func times(n int, p api.Piece) []api.Piece { return slices.Repeat([]api.Piece{p}, n) }
