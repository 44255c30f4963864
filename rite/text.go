package rite

import (
	"strconv"
	"strings"

	"chiti/api"
)

// write returns the line of a deed.
func (b *book) write(d api.Deed) string {
	return strconv.Itoa(d.Day) + " " + b.Acts[d.Act].Name + "\n"
}

// read returns the deed of the first line of a text, and the text behind it.
func (b *book) read(text string) (d api.Deed, rest string, e api.Errno) {
	line, rest, isEnded := strings.Cut(text, "\n")
	day, name, _ := strings.Cut(line, " ")
	if !isEnded || !isDay(day) || !isName(name) {
		return api.Deed{}, "", api.ErrForm
	}
	act := named(b.Acts, name)
	if act == noAct {
		return api.Deed{}, "", api.ErrNone
	}
	number, _ := strconv.Atoi(day)
	return api.Deed{Day: number, Act: act}, rest, api.OK
}

// isDay reports whether a text is a number as it is written, with one or two digits.
func isDay(s string) bool {
	number, err := strconv.Atoi(s)
	return err == nil && within(number, 0, 99) && strconv.Itoa(number) == s
}
