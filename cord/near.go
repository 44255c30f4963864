package cord

import (
	"cmp"
	"iter"

	"chiti/api"
	"chiti/surd"
)

// offRoot returns the first number less the square root of n. All the numbers must be valid.
func offRoot(n int, numbers ...api.Number) (api.Number, api.Errno) {
	switch {
	case !every(isNumber, numbers...):
		return api.Number{}, api.ErrArg
	case !within(n, 1, api.MaxRoot):
		return api.Number{}, api.ErrRange
	}
	root, _ := surd.Make(1, []api.Term{{Coef: 1, Root: n}})
	return surd.Sub(numbers[0], root)
}

func isNumber(x api.Number) bool { return surd.Check(x) == api.OK }

// size returns a number without its sign.
func size(x api.Number) api.Number {
	if order, _ := surd.Sign(x); order < 0 {
		x, _ = surd.Sub(fraction(0, 1), x)
	}
	return x
}

// ratio is num / den.
type ratio struct{ num, den int }

// records yields the ratios that are nearer to the square root of n than all with smaller denominators, by denominators up to most.
func records(n, most int) iter.Seq[ratio] {
	return func(yield func(ratio) bool) {
		next, best := ratio{}, ratio{}
		for before := range most {
			next.den = before + 1
			// The numerator is nearest that is the first one to be beyond the root with one half more.
			for (2*next.num+1)*(2*next.num+1) < 4*n*next.den*next.den {
				next.num++
			}
			if before > 0 && !next.nearer(best, n) {
				continue
			}
			best = next
			if !yield(best) {
				return
			}
		}
	}
}

// nearer reports whether r is nearer to the square root of n than s: the middle of both is then on the side of s.
func (r ratio) nearer(s ratio, n int) bool {
	a, b, both := r.num*s.den, s.num*r.den, r.den*s.den
	return cmp.Compare(a, b)*cmp.Compare((a+b)*(a+b), 4*n*both*both) < 0
}
