package cord

import (
	"slices"
	"strconv"
	"strings"

	"chiti/api"
	"chiti/surd"
)

func valid(o api.OldFraction) bool {
	return within(o.Whole, 0, api.MaxWhole) && len(o.Pieces) <= api.MaxPieces && every(isPiece, o.Pieces...)
}

func isPiece(p api.Piece) bool {
	return within(len(p.Marks), 1, api.MaxMarks) && every(isMark, p.Marks...)
}

func isMark(n int) bool { return within(n, 2, api.MaxMark) }

func within(n, low, high int) bool { return low <= n && n <= high }

func every[T any](holds func(T) bool, items ...T) bool {
	return !slices.ContainsFunc(items, func(item T) bool { return !holds(item) })
}

func copied(o api.OldFraction) api.OldFraction {
	o.Pieces = slices.Clone(o.Pieces)
	for i := range o.Pieces {
		o.Pieces[i].Marks = slices.Clone(o.Pieces[i].Marks)
	}
	return o
}

// sign is what a piece counts as a coefficient, and what it begins with in a text.
type sign struct {
	coef  int
	front string
}

// signs returns the signs of pieces, by whether they are taken away.
func signs() map[bool]sign {
	return map[bool]sign{false: {1, "+1/"}, true: {-1, "-1/"}}
}

func text(o api.OldFraction) string {
	s := strconv.Itoa(o.Whole)
	for _, p := range o.Pieces {
		front := signs()[p.Minus].front
		for _, mark := range p.Marks {
			s += front + strconv.Itoa(mark)
			front = "*"
		}
	}
	return s
}

// read returns the old fraction of a text, and some old fraction, valid or not, of what is no text.
func read(s string) (o api.OldFraction) {
	next := reader(s)
	o.Whole, _ = next("")
	for {
		p, ok := readPiece(next)
		if !ok {
			return o
		}
		o.Pieces = append(o.Pieces, p)
	}
}

func readPiece(next func(front string) (int, bool)) (p api.Piece, ok bool) {
	mark, ok := next(signs()[false].front)
	if !ok {
		p.Minus = true
		mark, ok = next(signs()[true].front)
	}
	for ; ok; mark, ok = next("*") {
		p.Marks = append(p.Marks, mark)
	}
	return p, len(p.Marks) > 0
}

// reader returns a function that takes a front and the integer behind it away from what is left of a text, if it begins with this front.
func reader(left string) func(front string) (int, bool) {
	return func(front string) (n int, ok bool) {
		behind, ok := strings.CutPrefix(left, front)
		if ok {
			n, left = readInteger(behind)
		}
		return n, ok
	}
}

// readInteger returns the integer with which a text begins, and the rest; an integer above all limits is one of them.
func readInteger(s string) (n int, rest string) {
	const tooGreat = max(api.MaxWhole, api.MaxMark) + 1
	for i, r := range s {
		if r < '0' || '9' < r {
			return n, s[i:]
		}
		n = min(10*n+int(r-'0'), tooGreat)
	}
	return n, ""
}

// withPieces returns the sum of a number and pieces, which are added one after another.
func withPieces(x api.Number, pieces ...api.Piece) (api.Number, api.Errno) {
	for _, p := range pieces {
		den := product(p.Marks...)
		if den > api.MaxDen {
			return api.Number{}, api.ErrOver
		}
		sum, e := surd.Add(x, fraction(signs()[p.Minus].coef, den))
		if e != api.OK {
			return api.Number{}, e
		}
		x = sum
	}
	return x, api.OK
}

func product(marks ...int) int {
	total := 1
	for _, mark := range marks {
		total *= mark
	}
	return total
}

// fraction returns the number num / den, for small ones.
func fraction(num, den int) api.Number {
	x, _ := surd.Make(den, []api.Term{{Coef: num, Root: 1}})
	return x
}

// numerator returns the numerator of a number that is a fraction.
func numerator(x api.Number) (num int, ok bool) {
	switch {
	case len(x.Terms) == 0:
		return 0, true
	case len(x.Terms) == 1 && x.Terms[0].Root == 1:
		return x.Terms[0].Coef, true
	}
	return 0, false
}
