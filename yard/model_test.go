package yard_test

import (
	"fmt"
	"regexp"
	"slices"
	"strconv"
	"strings"

	"chiti/api"
	"chiti/area"
	"chiti/brick"
	"chiti/cord"
	"chiti/kiln"
	"chiti/layer"
	"chiti/peg"
	"chiti/rite"
	"chiti/school"
	"chiti/shape"
	"chiti/song"
	"chiti/surd"
)

// model is a yard that keeps nothing but the lines that it has answered, as their words. All that it is asked for is found out from them, as the chapter tells it, word by word.
type model struct {
	answered [][]string
	forms    map[string]*regexp.Regexp
}

// must returns what a function returns, or stops by a panic with its error.
func must[T any](x T, e api.Errno) T {
	unless(e == api.OK, e)
	return x
}

// mustAt is must for functions that tell where they stop.
func mustAt[T any](x T, _ int, e api.Errno) T { return must(x, e) }

// unless stops by a panic with an error unless something holds.
func unless(holds bool, e api.Errno) {
	if !holds {
		panic(e)
	}
}

// caught returns what is returned, or the error with which it stops.
func caught(do func() string) (a api.YardAnswer) {
	defer func() {
		if e, isStopped := recover().(api.Errno); isStopped {
			a = api.YardAnswer{Err: e}
		}
	}()
	return api.YardAnswer{Text: do()}
}

// newModel returns a model, with a regular expression for each form of a line.
func newModel() *model {
	const integer = `(?:0|-?[1-9][0-9]{0,8})`
	sorts := strings.NewReplacer(
		"NAMES", `([a-z]{1,12}(?:,[a-z]{1,12})*)`, "NAME", `([a-z]{1,12})`, "INT", `(`+integer+`)`,
		"LIST", `(-|`+integer+`(?:,`+integer+`)*)`, "NUMBER", `([^ ]+)`, "WORD", `([^ ]+)`, "TEXT", `([^ ]+(?: [^ ]+)*)`,
	)
	m := &model{forms: map[string]*regexp.Regexp{}}
	for _, form := range forms() {
		m.forms[form] = regexp.MustCompile(`\A` + sorts.Replace(form) + `\z`)
	}
	return m
}

// words returns the words of a line, none if it has no form.
func (m *model) words(line string) []string {
	for form, expression := range m.forms {
		words := expression.FindStringSubmatch(line)
		if words == nil {
			continue
		}
		sorts := strings.Fields(form)
		words[0] = sorts[0]
		for i, sort := range sorts {
			if _, e := surd.Parse(words[i]); sort == "NUMBER" && e != api.OK {
				return nil
			}
		}
		return words
	}
	return nil
}

func (m *model) line(line string) api.YardAnswer {
	return caught(func() string {
		unless(len(line) <= 1000, api.ErrLong)
		words := m.words(line)
		unless(words != nil, api.ErrForm)
		text := m.answer(words)
		m.answered = append(m.answered, words)
		return text
	})
}

func (m *model) answer(w []string) string {
	switch w[0] {
	case "construct", "step", "peg", "corners", "holds":
		return m.construction(w)
	case "old", "chain", "off", "circle":
		return m.cord(w)
	case "ground", "part", "print", "measure", "size":
		return m.ground(w)
	case "lay", "tilings", "layers":
		return m.layer(w)
	case "need", "use", "count":
		return m.bricks(w)
	case "wares", "mould", "dry", "laid", "broke", "replace", "fire", "draw":
		return m.change(w)
	case "rite", "act", "begin":
		return m.rite(w)
	case "do", "perform", "open", "repair":
		return m.service(w)
	case "scan", "gifts", "borrow", "moon", "falls":
		return m.song(w)
	}
	return m.school(w)
}

// about returns the lines that made and changed a thing: those with its name behind one of some commands.
func (m *model) about(name string, commands ...string) [][]string {
	var l [][]string
	for _, w := range m.answered {
		if slices.Contains(commands, w[0]) && w[1] == name {
			l = append(l, w)
		}
	}
	return l
}

// told returns the lines about a thing that must be there.
func (m *model) told(name string, commands ...string) [][]string {
	l := m.about(name, commands...)
	unless(len(l) > 0, api.ErrNone)
	return l
}

// fresh stops unless there can be a new thing of a sort.
func (m *model) fresh(name, sort string) {
	unless(len(m.about(name, sort)) == 0, api.ErrTwice)
	count := 0
	for _, w := range m.answered {
		if w[0] == sort {
			count++
		}
	}
	unless(count < 20, api.ErrFull)
}

func toInt(word string) int {
	n, _ := strconv.Atoi(word)
	return n
}

func toList(word string) []int {
	var l []int
	if word != "-" {
		for part := range strings.SplitSeq(word, ",") {
			l = append(l, toInt(part))
		}
	}
	return l
}

func toNumber(word string) api.Number { return must(surd.Parse(word)) }

// fromInts returns the words of integers.
func fromInts(l ...int) string { return strings.Trim(fmt.Sprint(l), "[]") }

// fromList returns the word of a list of integers.
func fromList(l []int) string {
	if len(l) == 0 {
		return "-"
	}
	return strings.ReplaceAll(fromInts(l...), " ", ",")
}

// fromNumbers returns the words of numbers.
func fromNumbers(l ...api.Number) string {
	text := ""
	for _, x := range l {
		text += " " + must(surd.Format(x))
	}
	return text[1:]
}

func toPoint(x, y string) api.Point { return api.Point{X: toNumber(x), Y: toNumber(y)} }

// pegs returns the pegs of a construction that lines tell.
func pegs(l [][]string) []api.Point {
	start := [2]api.Point{toPoint(l[0][2], l[0][3]), toPoint(l[0][4], l[0][5])}
	var steps []api.PegStep
	for _, w := range l[1:] {
		step, _, e := peg.Read(w[2] + "\n")
		unless(e == api.OK && len(step) == 1, api.ErrForm)
		steps = append(steps, step[0])
	}
	return mustAt(peg.Run(start, steps))
}

func (m *model) construction(w []string) string {
	if w[0] == "construct" {
		m.fresh(w[1], "construct")
		return fromInts(len(pegs([][]string{w})))
	}
	l := m.told(w[1], "construct", "step")
	if w[0] == "step" {
		return fromInts(len(pegs(append(l, w))))
	}
	all := pegs(l)
	if w[0] == "holds" {
		kind := slices.Index([]string{"", "equal", "right", "line"}, w[2])
		unless(kind > 0, api.ErrForm)
		if must(peg.Holds(all, api.PegClaim{Kind: api.ClaimKind(kind), Pegs: toList(w[3])})) {
			return "yes"
		}
		return "no"
	}
	var chosen []api.Point
	for _, n := range toList(w[2]) {
		unless(0 <= n && n < len(all), api.ErrNone)
		chosen = append(chosen, all[n])
	}
	if w[0] == "peg" {
		return fromNumbers(chosen[0].X, chosen[0].Y)
	}
	return fromNumbers(must(peg.Area(chosen)))
}

func (m *model) cord(w []string) string {
	low, high, e := 0, 0, api.OK
	switch w[0] {
	case "old":
		return fromNumbers(must(cord.Value(must(cord.Parse(w[1])))))
	case "chain":
		return must(cord.Format(must(cord.Chain(must(cord.Parse(w[1])), toInt(w[2]), toInt(w[3])))))
	case "off":
		low, high, e = cord.Off(toNumber(w[1]), toInt(w[2]), toInt(w[3]))
	case "circle":
		low, high, e = cord.Circling(toNumber(w[1]), api.Between{Low: toNumber(w[2]), High: toNumber(w[3])}, toInt(w[4]))
	}
	unless(e == api.OK, e)
	return fromInts(low, high)
}

// steps returns the steps of a ground that lines tell.
func steps(l [][]string) []api.GroundStep {
	var all []api.GroundStep
	for _, w := range l[1:] {
		step, e := shape.Parse(w[2] + "\n")
		unless(e == api.OK && len(step) == 1, api.ErrForm)
		all = append(all, step[0])
	}
	return all
}

func (m *model) ground(w []string) string {
	if w[0] == "ground" {
		m.fresh(w[1], "ground")
		return "0"
	}
	l := m.told(w[1], "ground", "part")
	if w[0] == "part" {
		counts := mustAt(shape.Counts(steps(append(l, w))))
		return fromInts(counts[len(counts)-1])
	}
	s := mustAt(shape.Build(steps(l)))
	switch w[0] {
	case "print":
		return must(brick.Format(must(brick.Norm(s))))
	case "measure":
		center := must(shape.Center(s))
		return fromNumbers(must(shape.Area(s)), must(shape.Around(s)), center.X, center.Y)
	}
	return fromNumbers(must(shape.Unit(s, must(area.Grow(toNumber(w[2]), toNumber(w[3]), toInt(w[4]))))))
}

func (m *model) task(w []string) api.Task {
	t := api.Task{Ground: mustAt(shape.Build(steps(m.told(w[1], "ground", "part")))), Counts: toList(w[3])}
	for name := range strings.SplitSeq(w[2], ",") {
		t.Kinds = append(t.Kinds, must(brick.Kind(name)))
	}
	return t
}

// fromBricks returns the words of the bricks of a layer, with the names of their kinds.
func fromBricks(names string, l []api.Laid) string {
	text := ""
	for _, b := range l {
		text += " " + strings.Split(names, ",")[b.Kind] + ":" + strings.ReplaceAll(fromInts(b.Place.X, b.Place.Y, b.Place.Turns), " ", ":")
		if b.Place.Mirror {
			text += ":r"
		}
	}
	return text[1:]
}

func (m *model) layer(w []string) string {
	t := m.task(w)
	switch w[0] {
	case "lay":
		return fromBricks(w[2], must(layer.First(t)))
	case "tilings":
		all, unlike, nodes, e := layer.Count(t)
		unless(e == api.OK, e)
		return fromInts(all, unlike, nodes)
	}
	text := ""
	for _, l := range must(layer.Layers(t, toInt(w[4]))) {
		text += " / " + fromBricks(w[2], l)
	}
	return text[3:]
}

// book returns the book, made once more by all lines that changed it.
func (m *model) book() *kiln.Book {
	var b *kiln.Book
	for i, w := range m.answered {
		switch w[0] {
		case "wares":
			b = must(kiln.New(toList(w[1]), toInt(w[2])))
		case "mould", "dry", "laid", "broke", "replace", "fire", "draw":
			unless(changed(b, w) == api.OK, -1)
		case "use":
			// The ground may have been changed since then.
			then := model{answered: m.answered[:i]}
			for _, laid := range must(layer.First(then.task(w))) {
				unless(b.Lay(toList(w[4])[laid.Kind], 1) == api.OK, -1)
			}
		}
	}
	unless(b != nil, api.ErrState)
	return b
}

// changed changes the book, and returns its error.
func changed(b *kiln.Book, w []string) api.Errno {
	switch w[0] {
	case "mould":
		return b.Mould(toInt(w[1]), toInt(w[2]))
	case "dry":
		return b.Dry(toInt(w[1]), toInt(w[2]), toInt(w[3]))
	case "laid":
		return b.Lay(toInt(w[1]), toInt(w[2]))
	case "broke":
		return b.Break(toInt(w[1]), toInt(w[2]))
	case "replace":
		return b.Replace(toInt(w[1]), toInt(w[2]))
	case "draw":
		return b.Draw(toList(w[1]))
	}
	var l []api.Batch
	kinds, numbers := toList(w[1]), toList(w[2])
	if len(kinds) != len(numbers) {
		return api.ErrForm
	}
	for i, kind := range kinds {
		l = append(l, api.Batch{Kind: kind, N: numbers[i]})
	}
	return b.Fire(l)
}

func (m *model) change(w []string) string {
	if w[0] == "wares" {
		hasBook := func(w []string) bool { return w[0] == "wares" }
		unless(!slices.ContainsFunc(m.answered, hasBook), api.ErrState)
		must(kiln.New(toList(w[1]), toInt(w[2])))
		return "ok"
	}
	e := changed(m.book(), w)
	unless(e == api.OK, e)
	return "ok"
}

func (m *model) bricks(w []string) string {
	switch w[0] {
	case "need":
		least, most := toList(w[2]), toList(w[3])
		unless(len(least) == len(most), api.ErrForm)
		var l []api.YardStage
		for i := range least {
			l = append(l, api.YardStage{Least: least[i], Most: most[i]})
		}
		return fromInts(must(kiln.Need(toInt(w[1]), l)))
	case "count":
		s := must(m.book().Count(toInt(w[1])))
		return fromInts(s.Wet, s.Dry, s.Burning, s.Fired, s.Laid, s.Broken, s.Missing)
	}
	b := m.book()
	tiling := must(layer.First(m.task(w)))
	kinds := toList(w[4])
	unless(len(kinds) == len(strings.Split(w[2], ",")), api.ErrForm)
	for _, kind := range kinds {
		must(b.Count(kind))
	}
	for _, laid := range tiling {
		// What the model's book has of one more brick is forgotten again, if there is none for the next one.
		unless(b.Lay(kinds[laid.Kind], 1) == api.OK, api.ErrState)
	}
	return fromBricks(w[2], tiling)
}

// course returns the rite that lines tell, whether it has begun, and its course.
func (m *model) course(l [][]string) (r api.Rite, hasBegun bool, course []api.Deed) {
	for _, w := range l {
		switch w[0] {
		case "rite":
			r.Last, r.Toil = toInt(w[2]), toInt(w[3])
		case "act":
			a := api.Act{Name: w[2], Needs: toList(w[3]), Instead: toList(w[4]), Atone: toInt(w[5]), From: toInt(w[6]), To: toInt(w[7]), Extra: w[8] == "extra"}
			r.Acts = append(r.Acts, a)
		case "begin":
			hasBegun = true
		case "do", "perform":
			day := toInt(w[2])
			if w[0] == "perform" {
				day = m.day(w[2])
			}
			isNamed := func(a api.Act) bool { return a.Name == w[3] }
			act := slices.IndexFunc(r.Acts, isNamed)
			unless(act >= 0, api.ErrNone)
			course = append(course, api.Deed{Day: day, Act: act})
		}
	}
	return r, hasBegun, course
}

func (m *model) rite(w []string) string {
	if w[0] == "rite" {
		m.fresh(w[1], "rite")
		return "0"
	}
	r, hasBegun, _ := m.course(m.told(w[1], "rite", "act", "begin"))
	if w[0] == "begin" {
		unless(!hasBegun, api.ErrState)
		unless(rite.Check(r) == api.OK, rite.Check(r))
		return "ok"
	}
	unless(w[8] == "extra" || w[8] == "must", api.ErrForm)
	unless(!hasBegun, api.ErrState)
	unless(len(r.Acts) < 10, api.ErrFull)
	return fromInts(len(r.Acts) + 1)
}

func (m *model) service(w []string) string {
	l := m.told(w[1], "rite", "act", "begin", "do", "perform")
	r, hasBegun, course := m.course(l)
	unless(hasBegun, api.ErrState)
	text := ""
	switch w[0] {
	case "open":
		for _, act := range must(rite.Open(r, course, toInt(w[2]))) {
			text += "," + r.Acts[act].Name
		}
	case "repair":
		for _, d := range must(rite.Repair(r, course, toInt(w[2]))) {
			text += "," + fromInts(d.Day) + ":" + r.Acts[d.Act].Name
		}
	default:
		r, _, course = m.course(append(l, w))
		at, rule, e := rite.Judge(r, course)
		unless(at == -1 && rule == 0 && e == api.OK, api.ErrState)
		if must(rite.Complete(r, course)) {
			return "complete"
		}
		return "ok"
	}
	if text == "" {
		return "-"
	}
	return text[1:]
}

// moon returns the moon, if there is one.
func (m *model) moon() (moon api.Moon, isThere bool) {
	for _, w := range m.answered {
		if w[0] == "moon" {
			return api.Moon{Len: toInt(w[1]), Per: toInt(w[2]), Phase: toInt(w[3])}, true
		}
	}
	return api.Moon{}, false
}

// day returns the day on which a lunar day falls.
func (m *model) day(number string) int {
	moon, isThere := m.moon()
	unless(isThere, api.ErrState)
	day, _, e := song.Falls(moon, toInt(number))
	unless(e == api.OK, e)
	return day
}

func (m *model) song(w []string) string {
	switch w[0] {
	case "scan":
		weights := must(song.Scan(w[1]))
		return weights + " " + fromInts(len(weights)+strings.Count(weights, "g"))
	case "gifts":
		return fromList(must(song.Gifts(toInt(w[1]), toList(w[2]))))
	case "borrow":
		nums, dens := toList(w[2]), toList(w[3])
		unless(len(nums) == len(dens), api.ErrForm)
		var l []api.Portion
		for i := range nums {
			l = append(l, api.Portion{Num: nums[i], Den: dens[i]})
		}
		borrowed, gifts, e := song.Borrow(toInt(w[1]), l)
		unless(e == api.OK, e)
		return fromInts(borrowed) + " " + fromList(gifts)
	case "falls":
		day := m.day(w[1])
		moon, _ := m.moon()
		_, how, _ := song.Falls(moon, toInt(w[1]))
		return fromInts(day) + " " + map[api.LunarFall]string{api.FallsOnce: "once", api.FallsTwice: "twice", api.FallsNever: "never"}[how]
	}
	_, isThere := m.moon()
	unless(!isThere, api.ErrState)
	e := song.CheckMoon(api.Moon{Len: toInt(w[1]), Per: toInt(w[2]), Phase: toInt(w[3])})
	unless(e == api.OK, e)
	return "ok"
}

// schoolOf returns the school that lines tell.
func schoolOf(l [][]string) api.School {
	s := api.School{Features: toList(l[0][2]), Questions: toInt(l[0][3])}
	for _, w := range l[1:] {
		features, choices := toList(w[4]), toList(w[5])
		unless(len(features) == len(choices), api.ErrForm)
		r := api.Rule{Ask: toInt(w[2]), Say: toInt(w[3])}
		for i := range features {
			r.When = append(r.When, api.Test{Feature: features[i], Choices: choices[i]})
		}
		s.Rules = append(s.Rules, r)
	}
	unless(school.Check(s) == api.OK, school.Check(s))
	return s
}

func (m *model) school(w []string) string {
	if w[0] == "school" {
		m.fresh(w[1], "school")
		return fromInts(len(schoolOf([][]string{w}).Rules))
	}
	l := m.told(w[1], "school", "rule")
	switch w[0] {
	case "rule":
		return fromInts(len(schoolOf(append(l, w)).Rules))
	case "decide":
		say, by, e := school.Decide(schoolOf(l), toList(w[2]), toInt(w[3]))
		unless(e == api.OK, e)
		return fromInts(say) + " " + fromList(by)
	}
	other := m.told(w[2], "school", "rule")
	return fromList(must(school.Differ(schoolOf(l), schoolOf(other), toInt(w[3]))))
}
