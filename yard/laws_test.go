package yard_test

import (
	"fmt"
	"slices"
	"strings"
	"testing"

	"chiti/api"
	"chiti/kiln"
	"chiti/peg"
	"chiti/rite"
	"chiti/surd"
	"chiti/yard"
)

// changers are the commands that change a yard, as P12.10 tells them.
const changers = " construct step ground part wares mould dry laid broke replace fire draw use rite act begin do perform moon school rule "

// P12.10: the same lines have the same answers, line by line or all at once, whatever is done with another yard in between.
func TestAgain(t *testing.T) {
	for lines := range sessions {
		first := yard.Play(lines)
		y, other := yard.New(), yard.New()
		for i, line := range lines {
			if got := lineOf(y, line); got != first[i] {
				t.Fatalf("%q %v %v", lines[:i+1], got, first[i])
			}
			other.Line(lines[len(lines)-1-i])
		}
		if again := yard.Play(lines); !slices.Equal(again, first) {
			t.Fatal(lines, again, first)
		}
	}
}

// P12.10: a line that returns an error, and one whose command does not change the yard, change no later answer.
func TestNothingChanged(t *testing.T) {
	next := pseudo()
	left := 0
	for lines := range sessions {
		all := yard.Play(lines)
		var fewer []string
		var want []api.YardAnswer
		for i, line := range lines {
			command, _, _ := strings.Cut(line, " ")
			isIdle := all[i].Err != api.OK || !strings.Contains(changers, " "+command+" ")
			if isIdle && next(3) > 0 {
				left++
				continue
			}
			fewer, want = append(fewer, line), append(want, all[i])
		}
		if got := yard.Play(fewer); !slices.Equal(got, want) {
			t.Fatalf("%q %v %v", fewer, got, want)
		}
	}
	if left < 1000 {
		t.Error("only so many lines were left out:", left)
	}
}

// P12.10: each command that changes a yard changes some later answer.
func TestChanged(t *testing.T) {
	for _, lines := range [][]string{
		{"construct a 0 0 1 0", "peg a 0"},
		{"construct a 0 0 1 0", "step a mark 0 1 1/2", "peg a 2"},
		{"ground a", "print a"},
		{"ground a", "part a add 0 0 1 1", "print a"},
		{"wares 1 9", "count 0"},
		{"wares 1 9", "mould 0 1", "count 0"},
		{"wares 1 9", "mould 0 1", "dry 0 1 0", "count 0"},
		{"wares 1 9", "mould 0 1", "dry 0 1 0", "fire 0 1", "count 0"},
		{"wares 1 9", "mould 0 1", "dry 0 1 0", "fire 0 1", "draw 0", "count 0"},
		{"wares 1 9", "mould 0 1", "dry 0 1 0", "fire 0 1", "draw 0", "laid 0 1", "count 0"},
		{"wares 1 9", "mould 0 1", "dry 0 1 0", "fire 0 1", "draw 0", "laid 0 1", "broke 0 1", "count 0"},
		{"wares 1 9", "mould 0 2", "dry 0 2 0", "fire 0 2", "draw 0", "laid 0 1", "broke 0 1", "replace 0 1", "count 0"},
		{"wares 1 9", "mould 0 1", "dry 0 1 0", "fire 0 1", "draw 0", "ground a", "part a add 0 0 1 1", "use a square 1 0", "count 0"},
		{"rite a 1 1", "begin a"},
		{"rite a 1 1", "act a b - - -1 0 0 must", "begin a"},
		{"rite a 1 1", "act a b - - -1 0 0 must", "begin a", "open a 0"},
		{"rite a 1 1", "act a b - - -1 0 0 must", "begin a", "do a 0 b", "open a 0"},
		{"moon 1 1 0", "falls 0"},
		{"rite a 1 1", "act a b - - -1 0 0 must", "begin a", "moon 1 1 0", "perform a 0 b", "open a 0"},
		{"school a 1 1", "differ a a 0"},
		{"school a 1 1", "rule a 0 0 - -", "decide a 0 0"},
	} {
		with := yard.Play(lines)
		last := len(lines) - 1
		without := yard.Play(slices.Delete(slices.Clone(lines), last-1, last))
		if with[last] == without[last-1] && !strings.HasPrefix(lines[last], "differ") {
			t.Error(lines, with)
		}
	}
	told := play(t, "school a 1 1\nschool b 1 1\nrule a 0 0 - -")
	tell(t, told, "differ a b 0 = 0")
}

// P12.11: the pegs are those of peg.Run.
func TestPegsOfRun(t *testing.T) {
	zero, _ := surd.Parse("0")
	one, _ := surd.Parse("1")
	start := [2]api.Point{{X: zero, Y: zero}, {X: one, Y: zero}}
	next := pseudo()
	put := 0
	for range 60 {
		y := play(t, "construct a 0 0 1 0")
		text := ""
		for range 40 {
			line := constructionLine(next)
			if !strings.HasPrefix(line, "step a ") {
				continue
			}
			step := strings.TrimPrefix(line, "step a ") + "\n"
			l, _, e := peg.Read(text + step)
			if e != api.OK {
				continue
			}
			pegs, _, e := peg.Run(start, l)
			if got := lineOf(y, line); got.Err != e || e == api.OK && got.Text != fmt.Sprint(len(pegs)) {
				t.Fatal(text, line, got, e)
			}
			if e != api.OK {
				continue
			}
			text += step
			put = max(put, len(pegs))
			for i, p := range pegs {
				tell(t, y, fmt.Sprintf("peg a %d = %s", i, fromNumbers(p.X, p.Y)))
			}
			tell(t, y, fmt.Sprintf("peg a %d = ErrNone", len(pegs)))
		}
	}
	if put < 6 {
		t.Error("only so many pegs were put:", put)
	}
}

// wares returns how many bricks of a kind of the book there are.
func wares(t *testing.T, y *yard.Yard, kind int) (w api.Wares) {
	t.Helper()
	text := ask(t, y, fmt.Sprintf("count %d", kind))
	if _, err := fmt.Sscan(text, &w.Wet, &w.Dry, &w.Burning, &w.Fired, &w.Laid, &w.Broken, &w.Missing); err != nil {
		t.Error(text, err)
	}
	return w
}

// P12.11: no brick is laid that was not fired, as many are laid as the answer of use tells, and each brick that was moulded is somewhere.
func TestOnlyFiredBricks(t *testing.T) {
	next := pseudo()
	used, refused := 0, 0
	for range 60 {
		y := play(t, strings.Join(openings()[1], "\n"))
		for range 60 {
			line := bookLine(next)
			if next(2) == 0 {
				line = "use a " + oneOf(next, "oblong 2", "square,oblong 2,1", "oblong,half 1,4", "great,square 1,0") + " " + oneOf(next, "0", "1", "0,1", "1,0", "0,0", "1,1", "0,3")
			}
			command, _, _ := strings.Cut(line, " ")
			before := []api.Wares{wares(t, y, 0), wares(t, y, 1), wares(t, y, 2)}
			got := lineOf(y, line)
			laid := 0
			for kind, w := range before {
				after := wares(t, y, kind)
				laid += after.Laid - w.Laid
				if after.Fired < 0 || after.Laid > w.Laid && after.Laid-w.Laid != w.Fired-after.Fired {
					t.Fatal(line, w, after)
				}
				if command == "use" && got.Err != api.OK && after != w {
					t.Fatal(line, w, after)
				}
				if sum := func(w api.Wares) int { return w.Wet + w.Dry + w.Burning + w.Fired + w.Laid + w.Broken }; command != "mould" && sum(w) != sum(after) {
					t.Fatal(line, w, after)
				}
			}
			switch {
			case command == "use" && got.Err == api.OK:
				used++
				if laid != len(strings.Fields(got.Text)) {
					t.Fatal(line, got, laid)
				}
			case command == "use" && got.Err == api.ErrState:
				refused++
			}
		}
	}
	if used < 100 || refused < 50 {
		t.Error("only so many:", used, refused)
	}
}

// P12.11: use of one kind of bricks is what Lay does with as many.
func TestUseIsLay(t *testing.T) {
	for fired := range 10 {
		y := play(t, "ground a\npart a add 0 0 2 2\nwares 7,1 90\nmould 1 20\ndry 1 20 0")
		b, _ := kiln.New([]int{7, 1}, 90)
		b.Mould(1, 20)
		b.Dry(1, 20, 0)
		if fired > 0 {
			ask(t, y, fmt.Sprintf("fire 1 %d", fired))
			ask(t, y, "draw 0")
			b.Fire([]api.Batch{{Kind: 1, N: fired}})
			b.Draw([]int{0})
		}
		for range 3 {
			got, e := lineOf(y, "use a square 4 1"), b.Lay(1, 4)
			want, _ := b.Count(1)
			if got.Err != e || wares(t, y, 1) != want {
				t.Error(fired, got, e, want)
			}
		}
	}
}

// P12.11: no deed is done before what it needs, and Open tells what can be done.
func TestDeeds(t *testing.T) {
	r := api.Rite{Last: 6, Toil: 2, Acts: []api.Act{
		{Name: "wake", Atone: 2, To: 2},
		{Name: "offer", Needs: []int{0}, Instead: []int{3}, Atone: -1, From: 1, To: 4},
		{Name: "amend", Atone: -1, To: 6, Extra: true},
		{Name: "bathe", Atone: -1, From: 1, To: 4, Extra: true},
	}}
	next := pseudo()
	complete := 0
	for range 300 {
		y := play(t, strings.Join(openings()[2], "\n"))
		var course []api.Deed
		for range 12 {
			d := api.Deed{Day: next(7), Act: next(4)}
			longer := append(course, d)
			at, _, _ := rite.Judge(r, longer)
			name := r.Acts[d.Act].Name
			open := lineOf(y, fmt.Sprintf("open a %d", d.Day))
			isOpen := slices.Contains(strings.Split(open.Text, ","), name)
			got := lineOf(y, fmt.Sprintf("do a %d %s", d.Day, name))
			if (got.Err == api.OK) != (at < 0) || isOpen != (at < 0) || got.Err != api.OK && got.Err != api.ErrState {
				t.Fatal(course, d, got, open, at)
			}
			if at >= 0 {
				continue
			}
			course = longer
			isComplete, _ := rite.Complete(r, course)
			if (got.Text == "complete") != isComplete || !isComplete && got.Text != "ok" {
				t.Fatal(course, got)
			}
			if isComplete {
				complete++
			}
			settled, _ := rite.Settled(r, course[:len(course)-1])
			for _, need := range r.Acts[d.Act].Needs {
				if !slices.Contains(settled, need) {
					t.Fatal(course, need)
				}
			}
		}
	}
	if complete < 50 {
		t.Error("only so many rites were completed:", complete)
	}
}
