package yard_test

import (
	"fmt"
	"slices"
	"strings"
	"testing"

	"chiti/api"
	"chiti/yard"
)

// maker returns a line for a yard, mostly one with an answer.
type maker func(next func(n int) int) string

func someName(next func(n int) int) string { return oneOf(next, "a", "b", "c") }

// some returns up to so many integers from 0 to below n, as a list.
func some(next func(n int) int, most, n int) string {
	var l []int
	for range next(most + 1) {
		l = append(l, next(n))
	}
	return fromList(l)
}

func someNumber(next func(n int) int) string {
	return oneOf(next, "0", "1", "-1", "2", "1/2", "-2/3", "r2", "1+r2", "(1-r3)/2", "577/408", "3", "5/2", "100000")
}

func constructionLine(next func(n int) int) string {
	name := someName(next)
	step := oneOf(next,
		"line 0 1", "line 0 1", "line 1 2", "line 0 3", "gnomon 0 0", "gnomon 1 0", "gnomon 2 1", "circle 0 0 1", "circle 1 0 1", "circle 2 0 1",
		"cross 0 1", "cross 0 2", "cut 0 0 1", "cut 1 0 0", "cut 1 1 1", "join 0 1 0", "join 0 1 1", "mark 0 1 1/2", "mark 1 2 -2/3", "along 0 1 0 2",
		"along 1 2 0 1", "line 0", "join 0 1 2", "line 9 0", "line 0 0",
	)
	switch next(8) {
	case 0:
		return "construct " + name + " " + oneOf(next, "0 0 1 0", "0 0 1 0", "0 0 1 0", someNumber(next)+" 0 1 "+someNumber(next), "1 1 1 1")
	case 1:
		return fmt.Sprintf("peg %s %d", name, next(6)-1)
	case 2:
		return "corners " + name + " " + some(next, 5, 4)
	case 3:
		return "holds " + name + " " + oneOf(next, "equal", "right", "line", "area") + " " + oneOf(next, some(next, 4, 3), "0,1,2", "0,1,1,2")
	}
	return "step " + name + " " + step
}

func cordLine(next func(n int) int) string {
	old := oneOf(next, "1+1/3", "1+1/3+1/3*4-1/3*4*34", "0", "12", "2+1/4", "0+1/2+1/3", "1+2/3", "0+1/999*999")
	return oneOf(next,
		"old "+old,
		fmt.Sprintf("chain %s %d %d", old, next(8), next(10)),
		fmt.Sprintf("off %s %d %d", someNumber(next), next(7), next(3)*999),
		fmt.Sprintf("circle %s %s %s %d", someNumber(next), oneOf(next, "3", "223/71", someNumber(next)), oneOf(next, "22/7", "4", someNumber(next)), next(2000)),
	)
}

// someTask returns a ground, kinds of bricks, and their counts.
func someTask(next func(n int) int) string {
	return someName(next) + " " + oneOf(next,
		"oblong 2", "oblong 2", "great 1", "square 4", "oblong,half 1,4", "square,oblong 2,1", "half 8", "square,oblong 1,1", "bent 1", "square 1", "square,square 1,1",
		"oblong,oblong 1,1", "oblong 1", "bent,square 1,1", "triangle,half 2,2", "quarter 4", "oblong 1,1", "brick 1", "oblong,brick 1,1", "great,square 1,0",
	)
}

func groundLine(next func(n int) int) string {
	name := someName(next)
	switch next(9) {
	case 0:
		return "ground " + name
	case 1:
		return "print " + name
	case 2:
		return "measure " + name
	case 3:
		return fmt.Sprintf("size %s %s %s %d", name, someNumber(next), someNumber(next), next(4)-1)
	case 4:
		return oneOf(next, "lay ", "tilings ") + someTask(next)
	case 5:
		return fmt.Sprintf("layers %s %d", someTask(next), next(7))
	}
	return "part " + name + " " + oneOf(next,
		"add 0 0 2 2", "add 4 4 2 1", "add 2 3 1 1", "cut 0 0 1 1", "cut 4 4 2 1", "cut 0 0 2 2", "clip 0 0 1 ne", "corner 0 0 1 ne", "brick half 7 7 1",
		"reflected triangle 3 3 2", "mirror 1", "turn 1", "mirror 30", "brick brick 0 0 0", "add 16 0 1 1",
	)
}

func bookLine(next func(n int) int) string {
	kind, n := next(3), next(9)
	switch next(14) {
	case 0:
		return oneOf(next, "wares 1,3 20", "wares 1,1,1 50", "wares 0 1")
	case 1, 2:
		return fmt.Sprintf("mould %d %d", kind, n)
	case 3:
		return fmt.Sprintf("dry %d %d %d", kind, n, next(3))
	case 4, 5:
		return fmt.Sprintf("fire %s %s", oneOf(next, "0,1", "1", "0", some(next, 3, 3)), oneOf(next, "1,2", "3", "2", some(next, 3, 4)))
	case 6, 7:
		return "draw " + oneOf(next, "0", "0,0", "1,0", some(next, 3, 2))
	case 8:
		return fmt.Sprintf("%s %d %d", oneOf(next, "laid", "broke", "replace"), kind, next(3))
	case 9:
		return fmt.Sprintf("count %d", kind)
	case 10:
		return fmt.Sprintf("need %d %s %s", next(90), oneOf(next, "500,500", "-", some(next, 2, 900)), oneOf(next, "1000,1000", "-", some(next, 2, 1900)))
	case 11:
		return oneOf(next, "ground ", "part ") + someName(next) + oneOf(next, "", " add 0 0 2 2", " add 4 4 2 1")
	}
	return "use " + someTask(next) + " " + oneOf(next, "0", "1", "0,1", "1,1", "0,0", some(next, 3, 3))
}

func riteLine(next func(n int) int) string {
	name, act := someName(next), oneOf(next, "wake", "bathe", "offer", "amend")
	switch next(12) {
	case 0:
		return fmt.Sprintf("rite %s %d %d", name, 3+next(9), 1+next(3))
	case 1, 2, 3:
		return fmt.Sprintf("act %s %s %s %s %d %d %d %s", name, act, oneOf(next, "-", "-", "0"), oneOf(next, "-", "-", "1"), next(3)-1, next(2), 2+next(2), oneOf(next, "must", "must", "extra", "more"))
	case 4:
		return "begin " + name
	case 5:
		return fmt.Sprintf("moon %d %d %d", 1+next(3), 1+next(3), next(2))
	case 6:
		return fmt.Sprintf("perform %s %d %s", name, next(6)-1, act)
	case 7:
		return fmt.Sprintf("open %s %d", name, next(5))
	case 8:
		return fmt.Sprintf("repair %s %d", name, next(5))
	}
	return fmt.Sprintf("do %s %d %s", name, next(4), act)
}

func songLine(next func(n int) int) string {
	return oneOf(next,
		"scan "+oneOf(next, "agnim Ile purohitam", "devaM naH", "a", "tkt", "Rtvijam", "a  a", "aH a"),
		fmt.Sprintf("gifts %d %s", next(200), some(next, 5, 20)),
		fmt.Sprintf("borrow %d %s", next(20), oneOf(next, "1,1,1 2,3,9", "1 2", "- -", "1,2 3", "1,1 2,3", "3 2")),
		fmt.Sprintf("moon %d %d %d", 50+next(20), 60, next(2)),
		fmt.Sprintf("falls %d", next(200)-1),
	)
}

func schoolLine(next func(n int) int) string {
	name := someName(next)
	switch next(7) {
	case 0:
		return "school " + name + " " + oneOf(next, "2,3 1", "2,3 2", "2,2 1", "5 1")
	case 1, 2:
		return fmt.Sprintf("decide %s %s %d", name, oneOf(next, "0,0", "1,1", "0,2", some(next, 3, 3)), next(3))
	case 3:
		return fmt.Sprintf("differ %s %s %d", name, someName(next), next(2))
	}
	return fmt.Sprintf("rule %s %d %d %s", name, next(2), next(4), oneOf(next, "- -", "0 2", "0 1", "1 5", "0,1 1,6", "0,1 3", "2 1"))
}

func makers() []maker {
	return []maker{constructionLine, cordLine, groundLine, bookLine, riteLine, songLine, schoolLine}
}

// openings are lines with which sessions begin: without them there would seldom be fired bricks, or a rite that has begun.
func openings() [][]string {
	return [][]string{
		nil,
		{"ground a", "part a add 0 0 2 2", "wares 1,3,1 90", "mould 0 30", "mould 1 30", "dry 0 20 0", "dry 1 20 1", "fire 0,1 9,9", "draw 0,0"},
		{"rite a 6 2", "act a wake - - 2 0 2 must", "act a offer 0 3 -1 1 4 must", "act a amend - - -1 0 6 extra", "act a bathe - - -1 1 4 extra", "begin a"},
		{"rite b 9 1", "act b wake - - -1 0 9 must", "act b offer 0 - -1 0 9 must", "act b bathe 0 - -1 0 9 must", "begin b", "moon 2 3 1"},
	}
}

// spoiled returns a line with some fault, or what may be one.
func spoiled(next func(n int) int, line string) string {
	words := strings.Split(line, " ")
	at := next(len(words))
	switch next(5) {
	case 0:
		words = append(words[:at], words[at+1:]...)
	case 1:
		words = append(words, oneOf(next, "a", "0", "-"))
	case 2:
		words[at] = oneOf(next, "", "-", "-1", "00", "1000000000", "r4", "A", "1,", "a,a", "\xff", "abcdefghijklm", "99999999", "0", "1,2,3", "a", "line")
	case 3:
		words[at] += oneOf(next, " ", "0", "a", ",", ",1", "-", "\n")
	case 4:
		words[at], words[len(words)-1] = words[len(words)-1], words[at]
	}
	return strings.Join(words, " ")
}

// session returns so many lines from some makers; one in twelve is spoiled.
func session(next func(n int) int, count int, makers ...maker) []string {
	var lines []string
	for range count {
		line := makers[next(len(makers))](next)
		if next(12) == 0 {
			line = spoiled(next, line)
		}
		lines = append(lines, line)
	}
	return lines
}

// sessions ranges over sessions about one part of the yard each, and about all of it.
func sessions(yield func(lines []string) bool) {
	next := pseudo()
	for round := range 60 {
		opening := openings()[round%len(openings())]
		for _, m := range makers() {
			if !yield(slices.Concat(opening, session(next, 60, m))) {
				return
			}
		}
		if !yield(slices.Concat(opening, session(next, 300, makers()...))) {
			return
		}
	}
}

// P12.2 to P12.9: whatever is told, all is answered as the model does.
func TestModel(t *testing.T) {
	seen := map[string]map[api.Errno]int{}
	for lines := range sessions {
		y, m := yard.New(), newModel()
		for i, line := range lines {
			got, want := lineOf(y, line), m.line(line)
			if got != want {
				t.Fatalf("%q\n%v, not %v", lines[:i+1], got, want)
			}
			command, _, _ := strings.Cut(line, " ")
			if seen[command] == nil {
				seen[command] = map[api.Errno]int{}
			}
			seen[command][got.Err]++
		}
	}
	for _, form := range forms() {
		command := strings.Fields(form)[0]
		if seen[command][api.OK] < 5 || len(seen[command]) < 3 {
			t.Error("only so many:", command, seen[command])
		}
	}
}
