package brick

import (
	"slices"
	"strings"

	"chiti/api"
)

const (
	maxText = api.MaxGrid * (api.MaxGrid + 1)
	digits  = "0123456789abcdef"
)

// kinds are the kinds of bricks, with the texts of their shapes.
var kinds = [...]struct{ name, text string }{
	{"square", "f"},
	{"oblong", "ff"},
	{"great", "ff/ff"},
	{"half", "3"},
	{"quarter", "1"},
	{"triangle", "6c"},
	{"diamond", "6c/39"},
	{"bent", "f0/ff"},
}

// text returns the text of what begins in the corner of the grid.
func (g grid) text() string {
	_, greatest := g.ends()
	var rows []string
	for _, row := range g[:greatest.y+1] {
		text := ""
		for _, sum := range row[:greatest.x+1] {
			text += digits[sum : sum+1]
		}
		rows = append(rows, text)
	}
	slices.Reverse(rows)
	return strings.Join(rows, "/")
}

// read returns the quarters of a text, and some quarters, or none, of what is no text.
func read(s string) grid {
	var g grid
	rows := strings.Split(s, "/")
	slices.Reverse(rows)
	for y, row := range rows[:min(len(rows), api.MaxGrid)] {
		for x := range min(len(row), api.MaxGrid) {
			g[y][x] = uint8(max(0, strings.IndexByte(digits, row[x])))
		}
	}
	return g
}
