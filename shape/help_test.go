package shape_test

import (
	"fmt"
	"math"
	"strings"
	"testing"

	"chiti/api"
	"chiti/brick"
	"chiti/shape"
	"chiti/surd"
)

func quarter(x, y, side int) api.Quarter { return api.Quarter{X: x, Y: y, Side: side} }

func added(x, y, w, h int) api.GroundStep {
	return api.GroundStep{Kind: api.GroundAdd, X: x, Y: y, W: w, H: h}
}

func cut(x, y, w, h int) api.GroundStep {
	return api.GroundStep{Kind: api.GroundCut, X: x, Y: y, W: w, H: h}
}

func corner(x, y, w, side int) api.GroundStep {
	return api.GroundStep{Kind: api.GroundCorner, X: x, Y: y, W: w, Side: side}
}

func clip(x, y, w, side int) api.GroundStep {
	return api.GroundStep{Kind: api.GroundClip, X: x, Y: y, W: w, Side: side}
}

func laid(name string, x, y, turns int) api.GroundStep {
	return api.GroundStep{Kind: api.GroundBrick, Name: name, Place: api.Place{Turns: turns, X: x, Y: y}}
}

func laidReflected(name string, x, y, turns int) api.GroundStep {
	s := laid(name, x, y, turns)
	s.Place.Mirror = true
	return s
}

func mirror(x int) api.GroundStep { return api.GroundStep{Kind: api.GroundMirror, X: x} }

func turn(x int) api.GroundStep { return api.GroundStep{Kind: api.GroundTurn, X: x} }

func program(l ...api.GroundStep) []api.GroundStep { return l }

func kinds() []string {
	return []string{"square", "oblong", "great", "half", "quarter", "triangle", "diamond", "bent"}
}

// ofText returns the shape of a text of chapter 5.
func ofText(t *testing.T, text string) []api.Quarter {
	t.Helper()
	s, e := brick.Parse(text)
	if e != api.OK {
		t.Fatal("no text of a shape:", text)
	}
	return s
}

// built returns the shape of a program.
func built(t *testing.T, l ...api.GroundStep) []api.Quarter {
	t.Helper()
	s, at, e := shape.Build(l)
	if e != api.OK {
		t.Fatal("no ground:", l, at, e)
	}
	return s
}

// number returns the number of a text.
func number(t *testing.T, text string) api.Number {
	t.Helper()
	x, e := surd.Parse(text)
	if e != api.OK {
		t.Fatal("no number:", text)
	}
	return x
}

// textOf returns the text of a number, and an empty one if it is none.
func textOf(x api.Number) string {
	s, _ := surd.Format(x)
	return s
}

func told(x any) string { return fmt.Sprintf("%+v", x) }

// same reports whether two results are told in the same way; a nil list and an empty one are.
func same(x, y any) bool { return told(x) == told(y) }

// pseudo returns a function that yields integers from 0 to below n, the same ones in every run.
func pseudo() func(n int) int {
	state := uint64(88172645463325252)
	return func(n int) int {
		state ^= state << 13
		state ^= state >> 7
		state ^= state << 17
		return int(state % uint64(n))
	}
}

// some returns quarters in an oblong of w times h cells, each one with the chance of n in 8, but at least one.
func some(next func(n int) int, x, y, w, h, n int) []api.Quarter {
	var s []api.Quarter
	for row := range h {
		for column := range w {
			for side := range 4 {
				if next(8) < n && len(s) < api.MaxQuarters {
					s = append(s, quarter(x+column, y+row, side))
				}
			}
		}
	}
	if len(s) == 0 {
		s = append(s, quarter(x+next(w), y+next(h), next(4)))
	}
	return s
}

// someShape returns a shape of up to so many columns and rows, somewhere on the grid.
func someShape(next func(n int) int, size int) []api.Quarter {
	w, h := 1+next(size), 1+next(size)
	return some(next, next(api.MaxGrid+1-w), next(api.MaxGrid+1-h), w, h, 1+next(7))
}

// someStep returns a valid step, with lengths up to most.
func someStep(next func(n int) int, most int) api.GroundStep {
	s := api.GroundStep{Kind: api.GroundKind(1 + next(7))}
	column := func() int { return next(api.MaxGrid) }
	switch s.Kind {
	case api.GroundAdd, api.GroundCut:
		s.X, s.Y, s.W, s.H = column(), column(), 1+next(most), 1+next(most)
	case api.GroundCorner, api.GroundClip:
		s.X, s.Y, s.W, s.Side = column(), column(), 1+next(most), next(4)
	case api.GroundBrick:
		s.Name = kinds()[next(len(kinds()))]
		s.Place = api.Place{Mirror: next(2) == 0, Turns: next(4), X: column(), Y: column()}
	default:
		s.X = next(api.MaxMove + 1)
	}
	return s
}

// someProgram returns valid steps, which need not be possible.
func someProgram(next func(n int) int, count, most int) []api.GroundStep {
	var l []api.GroundStep
	for range count {
		l = append(l, someStep(next, most))
	}
	return l
}

// possible returns up to so many valid steps that can be carried out one after another.
func possible(next func(n int) int, count int) []api.GroundStep {
	var l []api.GroundStep
	for range 40 * count {
		with := append(l[:len(l):len(l)], someStep(next, 4))
		if _, _, e := modelRun(with); e == api.OK {
			l = with
		}
		if len(l) == count {
			break
		}
	}
	return l
}

// full returns the first so many quarters of the grid.
func full(count int) []api.Quarter {
	var s []api.Quarter
	for i := range count {
		s = append(s, quarter(i/4%api.MaxGrid, i/4/api.MaxGrid, i%4))
	}
	return s
}

func rows(row string, count int) string { return strings.Repeat(row+"/", count-1) + row }

func extremes() []int {
	return []int{math.MinInt, math.MinInt + 1, -17, -16, -2, -1, 0, 1, 2, 3, 4, 5, 15, 16, 17, 30, 31, 255, 256, 1 << 32, math.MaxInt - 15, math.MaxInt - 1, math.MaxInt}
}
