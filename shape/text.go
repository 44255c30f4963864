package shape

import (
	"strconv"
	"strings"

	"chiti/api"
)

// corners are the words for the corners between two sides.
var corners = [...]string{"ne", "es", "sw", "wn"}

// word is how a word of a line is read into a step, and how it is written.
type word struct {
	read  func(s *api.GroundStep, text string)
	write func(s api.GroundStep) string
}

// form is the form of a line: its first word, what this says of a step, and the other words.
type form struct {
	name  string
	start api.GroundStep
	words []word
}

// number returns the word for a number of a step.
func number(of func(s *api.GroundStep) *int) word {
	return word{
		read:  func(s *api.GroundStep, text string) { *of(s) = integer(text) },
		write: func(s api.GroundStep) string { return strconv.Itoa(*of(&s)) },
	}
}

// integer returns the integer of a word, and -1, which no step has, if it is none.
func integer(text string) int {
	n, err := strconv.Atoi(text)
	if err != nil {
		return -1
	}
	return n
}

// cornerNamed returns the number of a corner, and -1 if there is none with this name.
func cornerNamed(name string) int {
	for i, corner := range corners {
		if corner == name {
			return i
		}
	}
	return -1
}

// forms returns the forms of all lines.
func forms() []form {
	x := number(func(s *api.GroundStep) *int { return &s.X })
	y := number(func(s *api.GroundStep) *int { return &s.Y })
	w := number(func(s *api.GroundStep) *int { return &s.W })
	h := number(func(s *api.GroundStep) *int { return &s.H })
	side := word{
		read:  func(s *api.GroundStep, text string) { s.Side = cornerNamed(text) },
		write: func(s api.GroundStep) string { return corners[s.Side] },
	}
	name := word{
		read:  func(s *api.GroundStep, text string) { s.Name = text },
		write: func(s api.GroundStep) string { return s.Name },
	}
	column := number(func(s *api.GroundStep) *int { return &s.Place.X })
	row := number(func(s *api.GroundStep) *int { return &s.Place.Y })
	turns := number(func(s *api.GroundStep) *int { return &s.Place.Turns })
	return []form{
		{"add", api.GroundStep{Kind: api.GroundAdd}, []word{x, y, w, h}},
		{"cut", api.GroundStep{Kind: api.GroundCut}, []word{x, y, w, h}},
		{"corner", api.GroundStep{Kind: api.GroundCorner}, []word{x, y, w, side}},
		{"clip", api.GroundStep{Kind: api.GroundClip}, []word{x, y, w, side}},
		{"brick", api.GroundStep{Kind: api.GroundBrick}, []word{name, column, row, turns}},
		{"reflected", api.GroundStep{Kind: api.GroundBrick, Place: api.Place{Mirror: true}}, []word{name, column, row, turns}},
		{"mirror", api.GroundStep{Kind: api.GroundMirror}, []word{x}},
		{"turn", api.GroundStep{Kind: api.GroundTurn}, []word{x}},
	}
}

// text returns the line of a valid step.
func text(s api.GroundStep) string {
	for _, f := range forms() {
		if f.start.Kind == s.Kind && f.start.Place.Mirror == s.Place.Mirror {
			return f.write(s)
		}
	}
	return ""
}

func (f form) write(s api.GroundStep) string {
	line := f.name
	for _, w := range f.words {
		line += " " + w.write(s)
	}
	return line + "\n"
}

// read returns the step of a line without its end, and some step, valid or not, of what is no line of one.
func read(line string) api.GroundStep {
	words := strings.Split(line, " ")
	for _, f := range forms() {
		if f.name == words[0] {
			return f.read(words[1:]...)
		}
	}
	return api.GroundStep{}
}

func (f form) read(texts ...string) api.GroundStep {
	s := f.start
	for i, w := range f.words[:min(len(f.words), len(texts))] {
		w.read(&s, texts[i])
	}
	return s
}
