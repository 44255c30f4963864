package brick_test

import (
	"fmt"
	"math"
	"slices"
	"testing"

	"chiti/api"
)

func quarter(x, y, side int) api.Quarter { return api.Quarter{X: x, Y: y, Side: side} }

func edge(x, y, kind int) api.Edge { return api.Edge{X: x, Y: y, Kind: kind} }

// shape returns the quarters of a text, as the model reads it.
func shape(t *testing.T, text string) []api.Quarter {
	t.Helper()
	s, ok := modelRead(text)
	if !ok {
		t.Fatal("no text of a shape:", text)
	}
	return s
}

// shapeAt returns the quarters of a text, moved by so many columns and rows.
func shapeAt(t *testing.T, text string, x, y int) []api.Quarter {
	t.Helper()
	s := shape(t, text)
	for i := range s {
		s[i].X += x
		s[i].Y += y
	}
	return s
}

func shapes(t *testing.T, texts ...string) [][]api.Quarter {
	t.Helper()
	var l [][]api.Quarter
	for _, text := range texts {
		l = append(l, shape(t, text))
	}
	return l
}

// texts returns the texts of shapes that are in the corner.
func texts(l [][]api.Quarter) []string {
	var all []string
	for _, s := range l {
		all = append(all, modelText(s))
	}
	return all
}

func told(x any) string { return fmt.Sprintf("%+v", x) }

// same reports whether two results are told in the same way; a nil list and an empty one are.
func same(x, y any) bool { return told(x) == told(y) }

// pseudo returns a function that yields integers from 0 to below n, the same ones in every run.
func pseudo() func(n int) int {
	state := uint64(88172645463325252)
	return func(n int) int {
		state ^= state << 13
		state ^= state >> 7
		state ^= state << 17
		return int(state % uint64(n))
	}
}

// some returns quarters in an oblong of w times h cells, each one with the chance of n in 8, but at least one.
func some(next func(n int) int, x, y, w, h, n int) []api.Quarter {
	var s []api.Quarter
	for row := range h {
		for column := range w {
			for side := range 4 {
				if next(8) < n && len(s) < api.MaxQuarters {
					s = append(s, quarter(x+column, y+row, side))
				}
			}
		}
	}
	if len(s) == 0 {
		s = append(s, quarter(x+next(w), y+next(h), next(4)))
	}
	return s
}

// someShape returns a shape of up to so many columns and rows, somewhere on the grid.
func someShape(next func(n int) int, size int) []api.Quarter {
	w, h := 1+next(size), 1+next(size)
	return some(next, next(api.MaxGrid+1-w), next(api.MaxGrid+1-h), w, h, 1+next(7))
}

// someShapes returns up to so many shapes that have no quarter in common.
func someShapes(next func(n int) int, count, size int) [][]api.Quarter {
	l := make([][]api.Quarter, count)
	for _, q := range someShape(next, size) {
		i := next(count)
		l[i] = append(l[i], q)
	}
	return slices.DeleteFunc(l, func(s []api.Quarter) bool { return len(s) == 0 })
}

func somePlace(next func(n int) int) api.Place {
	return api.Place{Mirror: next(2) == 0, Turns: next(4), X: next(api.MaxGrid), Y: next(api.MaxGrid)}
}

// full returns the first so many quarters of the grid.
func full(count int) []api.Quarter {
	var s []api.Quarter
	for i := range count {
		s = append(s, quarter(i/4%api.MaxGrid, i/4/api.MaxGrid, i%4))
	}
	return s
}

func extremes() []int {
	return []int{math.MinInt, math.MinInt + 1, math.MinInt + 15, -17, -16, -1, 0, 1, 3, 4, 15, 16, 17, 255, 256, 1 << 32, math.MaxInt - 15, math.MaxInt - 1, math.MaxInt}
}
