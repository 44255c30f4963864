package area_test

import (
	"math"
	"slices"
	"strconv"
	"strings"
	"testing"

	"chiti/api"
	"chiti/surd"
)

// num returns the number of a text: an invalid one for the text no, and the zero value for an empty one.
func num(t *testing.T, s string) api.Number {
	t.Helper()
	switch s {
	case "no":
		return api.Number{Den: 2}
	case "":
		return api.Number{}
	}
	x, e := surd.Parse(s)
	if e != api.OK {
		t.Fatalf("surd.Parse(%q): error %d", s, e)
	}
	return x
}

func integer(n int) api.Number {
	x, _ := surd.Make(1, []api.Term{{Coef: n, Root: 1}})
	return x
}

func told(x api.Number) string {
	s, _ := surd.Format(x)
	return s
}

func isZero(x api.Number) bool { return x.Den == 0 && len(x.Terms) == 0 }

func same(x, y api.Number) bool { return x.Den == y.Den && slices.Equal(x.Terms, y.Terms) }

func isValid(x api.Number) bool { return surd.Check(x) == api.OK }

func plotNames() []string {
	return []string{"", "square", "oblong", "triangle", "rhomb", "trapezium"}
}

func changeNames() []string {
	return []string{"", "square", "oblong", "triangle", "rhomb", "trapezium", "join", "less", "times"}
}

// plot returns the plot of a text: the name of its kind, and the texts of its numbers.
func plot(t *testing.T, s string) api.Plot {
	t.Helper()
	words := strings.Split(s, " ")
	kind := api.PlotKind(slices.Index(plotNames(), words[0]))
	words = append(words, "", "", "")
	return api.Plot{Kind: kind, A: num(t, words[1]), B: num(t, words[2]), C: num(t, words[3])}
}

func plots(t *testing.T, texts ...string) []api.Plot {
	t.Helper()
	var l []api.Plot
	for _, s := range texts {
		l = append(l, plot(t, s))
	}
	return l
}

// toldPlot returns the text of a plot, and an empty one of the zero value.
func toldPlot(p api.Plot) string {
	if p.Kind < 0 || int(p.Kind) >= len(plotNames()) {
		return "?"
	}
	s := plotNames()[p.Kind]
	for _, x := range []api.Number{p.A, p.B, p.C} {
		if !isZero(x) {
			s += " " + told(x)
		}
	}
	return s
}

// toldPlots returns the texts of plots, with a comma after each one.
func toldPlots(l []api.Plot) string {
	s := ""
	for _, p := range l {
		s += toldPlot(p) + ","
	}
	return s
}

func toldNumbers(l []api.Number) string {
	s := ""
	for _, x := range l {
		s += told(x) + ","
	}
	return s
}

// change returns the change of a text: the name of its kind, First, and what else the kind uses, as in "join 0 1" and "trapezium 0 3 1/2".
func change(t *testing.T, s string) api.AreaChange {
	t.Helper()
	words := strings.Split(s, " ")
	c := api.AreaChange{Kind: api.ChangeKind(slices.Index(changeNames(), words[0])), First: count(t, words[1])}
	words = words[2:]
	switch c.Kind {
	case api.ChangeJoin, api.ChangeLess:
		c.Second = count(t, words[0])
	case api.ChangeOblong, api.ChangeTriangle, api.ChangeRhomb, api.ChangeTrapezium:
		c.X, words = num(t, words[0]), words[1:]
	}
	if c.Kind == api.ChangeTrapezium || c.Kind == api.ChangeTimes {
		above, below, _ := strings.Cut(words[0], "/")
		c.Num, c.Den = count(t, above), count(t, below)
	}
	return c
}

func count(t *testing.T, s string) int {
	t.Helper()
	n, err := strconv.Atoi(s)
	if err != nil {
		t.Fatal(err)
	}
	return n
}

// changes returns the changes of a text, with a comma after each one.
func changes(t *testing.T, s string) []api.AreaChange {
	t.Helper()
	var l []api.AreaChange
	for s != "" {
		first, rest, _ := strings.Cut(s, ",")
		l, s = append(l, change(t, first)), rest
	}
	return l
}

// plan returns the points of texts of two coordinates, which a space separates.
func plan(t *testing.T, texts ...string) []api.Point {
	t.Helper()
	var l []api.Point
	for _, s := range texts {
		x, y, _ := strings.Cut(s, " ")
		l = append(l, api.Point{X: num(t, x), Y: num(t, y)})
	}
	return l
}

func toldPlan(l []api.Point) string {
	s := ""
	for _, p := range l {
		s += told(p.X) + " " + told(p.Y) + ","
	}
	return s
}

// pseudo returns a function that yields integers from 0 to below n, the same ones in every run.
func pseudo() func(n int) int {
	state := uint64(88172645463325252)
	return func(n int) int {
		state ^= state << 13
		state ^= state >> 7
		state ^= state << 17
		return int(state % uint64(n))
	}
}

// someNumber returns a number with up to so many terms, with coefficients and a denominator up to size.
func someNumber(next func(n int) int, terms, size int) api.Number {
	for {
		var parts []api.Term
		for range next(terms + 1) {
			parts = append(parts, api.Term{Coef: next(2*size+1) - size, Root: []int{1, 1, 2, 3, 5}[next(5)]})
		}
		if x, e := surd.Make(1+next(size), parts); e == api.OK {
			return x
		}
	}
}

// someSide returns a number above 0, as someNumber does.
func someSide(next func(n int) int, terms, size int) api.Number {
	for {
		x := someNumber(next, terms, size)
		if sign, _ := surd.Sign(x); sign > 0 {
			return x
		}
	}
}

func somePlot(next func(n int) int, terms, size int) api.Plot {
	p := api.Plot{Kind: api.PlotKind(1 + next(5)), A: someSide(next, terms, size)}
	if p.Kind > api.PlotSquare {
		p.B = someSide(next, terms, size)
	}
	if p.Kind == api.PlotTrapezium {
		p.C = someSide(next, terms, size)
	}
	return p
}

// someChange returns a valid change of some of so many plots.
func someChange(next func(n int) int, plots, terms, size int) api.AreaChange {
	c := api.AreaChange{Kind: api.ChangeKind(1 + next(8)), First: next(plots)}
	switch c.Kind {
	case api.ChangeJoin, api.ChangeLess:
		c.Second = next(plots)
	case api.ChangeOblong, api.ChangeTriangle, api.ChangeRhomb, api.ChangeTrapezium:
		c.X = someSide(next, terms, size)
	}
	if c.Kind == api.ChangeTrapezium || c.Kind == api.ChangeTimes {
		c.Num, c.Den = 1+next(min(size, api.MaxTimes)), 1+next(min(size, api.MaxTimes))
	}
	return c
}

func somePlan(next func(n int) int, points, terms, size int) []api.Point {
	var l []api.Point
	for range points {
		l = append(l, api.Point{X: someNumber(next, terms, size), Y: someNumber(next, terms, size)})
	}
	return l
}

func extremes() []int {
	return []int{math.MinInt, math.MinInt + 1, -1000, -1, 0, 1, 2, 3, 20, 21, 300, 301, 999, 1000, 1001, 100000, 100001, math.MaxInt - 1, math.MaxInt}
}
