package brick_test

import (
	"testing"

	"chiti/api"
	"chiti/brick"
)

// outcome is what a call returned: everything but the error, as text, and the same for zero values.
type outcome struct {
	results, zero string
	e             api.Errno
}

func outcomeOf[T any](x T, e api.Errno) outcome {
	var zero T
	return outcome{told(x), told(zero), e}
}

// outcomes calls all functions with some arguments.
func outcomes(s, ground []api.Quarter, l [][]api.Quarter, p api.Place, text string) map[string]outcome {
	return map[string]outcome{
		"Check":  outcomeOf(0, brick.Check(s)),
		"Put":    outcomeOf(brick.Put(s, p)),
		"Norm":   outcomeOf(brick.Norm(s)),
		"Images": outcomeOf(brick.Images(s)),
		"Same":   outcomeOf(brick.Same(s, ground)),
		"Pieces": outcomeOf(brick.Pieces(s)),
		"Border": outcomeOf(brick.Border(s)),
		"Joints": outcomeOf(brick.Joints(l)),
		"Places": outcomeOf(brick.Places(s, ground)),
		"Kind":   outcomeOf(brick.Kind(text)),
		"Name":   outcomeOf(brick.Name(s)),
		"Format": outcomeOf(brick.Format(s)),
		"Parse":  outcomeOf(brick.Parse(text)),
	}
}

// P1: no function panics, whatever it is given, and with an error every other result is zero; the same call has the same result.
func TestWild(t *testing.T) {
	next := pseudo()
	integer := func() int { return extremes()[next(len(extremes()))] }
	quarters := func() []api.Quarter {
		s := someShape(next, 4)
		switch next(4) {
		case 0:
			s[next(len(s))] = quarter(integer(), integer(), integer())
		case 1:
			s[next(len(s))].Side = integer()
		}
		return s
	}
	words := []string{"square", "half", "f", "f0/ff", "", "/", "\x80", "0", "ff/", "fffffffffffffffffff", "1/1/1/1/1/1/1/1/1/1/1/1/1/1/1/1/1/1/1/1"}
	for range 3000 {
		p := somePlace(next)
		if next(2) == 0 {
			p = api.Place{Mirror: next(2) == 0, Turns: integer(), X: integer(), Y: integer()}
		}
		s, ground, text := quarters(), quarters(), words[next(len(words))]
		l := [][]api.Quarter{quarters(), s, nil, ground}[:next(5)]
		first := outcomes(s, ground, l, p, text)
		for name, o := range outcomes(s, ground, l, p, text) {
			if o != first[name] || o.e != api.OK && o.results != o.zero {
				t.Error(name, s, ground, p, text, o, first[name])
			}
		}
	}
	long := make([]api.Quarter, 1<<20)
	for name, o := range outcomes(long, long, make([][]api.Quarter, 1<<20), api.Place{}, string(make([]byte, 1<<20))) {
		want := api.ErrLong
		if name == "Kind" {
			want = api.ErrNone
		}
		if o.e != want || o.results != o.zero {
			t.Error(name, o)
		}
	}
}

// R3: a nil list and an empty one are the same.
func TestNilAndEmpty(t *testing.T) {
	first := outcomes(nil, nil, nil, api.Place{}, "")
	for name, o := range outcomes([]api.Quarter{}, []api.Quarter{}, [][]api.Quarter{}, api.Place{}, "") {
		if o != first[name] {
			t.Error(name, o, first[name])
		}
	}
	if l, e := brick.Joints(nil); len(l) != 0 || e != api.OK {
		t.Error(l, e)
	}
	for _, l := range [][][]api.Quarter{{nil}, {{}}, {full(1), {}}} {
		if _, e := brick.Joints(l); e != api.ErrArg {
			t.Error(l, e)
		}
	}
}

// roomy returns a copy of a list with room behind it, which an append would take.
func roomy[T any](l []T) []T { return append(make([]T, 0, 2*len(l)+9), l...) }

// scribble writes over lists, and over the spare room behind them.
func scribble(lists ...[]api.Quarter) {
	for _, s := range lists {
		for i := range s[:cap(s)] {
			s[:cap(s)][i] = quarter(-9, -9, -9)
		}
	}
}

// R4: no call changes an argument, and no result shares memory with it, nor its lists with each other.
func TestMemory(t *testing.T) {
	calls := map[string]func(s, ground []api.Quarter) [][]api.Quarter{
		"Put": func(s, ground []api.Quarter) [][]api.Quarter {
			a, _ := brick.Put(s, api.Place{})
			b, _ := brick.Put(s, api.Place{Turns: 1, X: 2})
			return [][]api.Quarter{a, b}
		},
		"Norm": func(s, ground []api.Quarter) [][]api.Quarter {
			a, _ := brick.Norm(s)
			b, _ := brick.Norm(a)
			return [][]api.Quarter{a, b}
		},
		"Images": func(s, ground []api.Quarter) [][]api.Quarter { l, _ := brick.Images(s); return l },
		"Pieces": func(s, ground []api.Quarter) [][]api.Quarter { l, _ := brick.Pieces(ground); return l },
		"others": func(s, ground []api.Quarter) [][]api.Quarter {
			brick.Check(s)
			brick.Same(s, ground)
			brick.Border(s)
			brick.Joints([][]api.Quarter{s, ground})
			brick.Places(s, ground)
			brick.Name(s)
			brick.Format(s)
			return nil
		},
	}
	for name, call := range calls {
		for _, text := range []string{"f", "f1", "5", "f0/ff", "6c/39"} {
			s, ground := roomy(shape(t, text)), roomy(shapeAt(t, "f0f/0f0/5a1", 4, 4))
			spare := s[: len(s)+1 : cap(s)]
			got := call(s, ground)
			before := told(got)
			if !same(s, shape(t, text)) || !same(ground, shapeAt(t, "f0f/0f0/5a1", 4, 4)) || spare[len(s)] != (api.Quarter{}) {
				t.Error("changed", name, s, ground)
			}
			scribble(s, ground)
			if told(got) != before {
				t.Error("shared with an argument", name, before, told(got))
			}
			for i := range got {
				after := told(got[i+1:])
				scribble(got[i])
				if told(got[i+1:]) != after {
					t.Error("shared with each other", name, i, before)
				}
			}
		}
	}
}

// R4: what is written into a result is not seen in a later one.
func TestMemoryOfTexts(t *testing.T) {
	for name, text := range kindTexts() {
		for range 2 {
			s, e := brick.Kind(name)
			back, f := brick.Parse(text)
			if !same(s, shape(t, text)) || !same(back, s) || e != api.OK || f != api.OK {
				t.Error(name, s, back, e, f)
			}
			scribble(s, back)
		}
	}
	l := roomy([][]api.Quarter{roomy(full(2)), shapeAt(t, "f", 3, 3)})
	brick.Joints(l)
	if !same(l, [][]api.Quarter{full(2), shapeAt(t, "f", 3, 3)}) || l[:3][2] != nil {
		t.Error("changed", l)
	}
}
