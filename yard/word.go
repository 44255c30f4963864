package yard

import (
	"slices"
	"strconv"
	"strings"

	"chiti/api"
	"chiti/surd"
)

// The sorts of words, by the letters with which commands tell them.
const (
	aName     = 'n'
	someNames = 's'
	anInteger = 'i'
	aList     = 'l'
	aNumber   = 'x'
	aWord     = 'w'
	aText     = 't' // the rest of the line
)

const (
	space = " " // between words
	comma = "," // between the parts of a word
	none  = "-" // a word without parts
)

// words are those of a line behind its command, by their sorts; no command has more than one word of each of the last two fields.
type words struct {
	names    []string
	integers []int
	lists    [][]int
	numbers  []api.Number
	kinds    []string // a word of several names
	text     string   // any word, or the rest of the line
}

// read returns the command of a line, and its words.
func read(line string) (c command, w words, isRead bool) {
	all := strings.Split(line, space)
	c, isCommand := commands()[all[0]]
	if !isCommand || slices.Contains(all, "") {
		return command{}, words{}, false
	}
	w, isRead = c.read(all[1:])
	return c, w, isRead
}

// read returns the words of a command, if they are as many, and of the sorts, as it asks for.
func (c command) read(all []string) (w words, isRead bool) {
	last := len(c.sorts) - 1
	if c.sorts[last] == aText && len(all) > last {
		all = append(all[:last], strings.Join(all[last:], space))
	}
	if len(all) != len(c.sorts) {
		return words{}, false
	}
	for i, sort := range c.sorts {
		if !w.read(sort, all[i]) {
			return words{}, false
		}
	}
	return w, true
}

// read adds a word to those of its sort, and reports whether it is of this sort.
func (w *words) read(sort rune, word string) bool {
	switch sort {
	case aName:
		return readParts(&w.names, name, word)
	case someNames:
		return readParts(&w.kinds, name, strings.Split(word, comma)...)
	case anInteger:
		return readParts(&w.integers, integer, word)
	case aList:
		var l []int
		isList := word == none || readParts(&l, integer, strings.Split(word, comma)...)
		w.lists = append(w.lists, l)
		return isList
	case aNumber:
		return readParts(&w.numbers, number, word)
	case aWord, aText:
		w.text = word
		return true
	}
	return false
}

// readParts adds the parts of a word to a list, and reports whether all of them can be read.
func readParts[T any](l *[]T, read func(part string) (T, bool), parts ...string) bool {
	for _, part := range parts {
		x, isRead := read(part)
		if !isRead {
			return false
		}
		*l = append(*l, x)
	}
	return true
}

func name(part string) (string, bool) {
	isOther := func(letter rune) bool { return letter < 'a' || letter > 'z' }
	return part, part != "" && len(part) <= api.MaxWord && !strings.ContainsFunc(part, isOther)
}

// integer reads an integer, which is one only as it is written.
func integer(part string) (int, bool) {
	n, err := strconv.Atoi(part)
	return n, err == nil && -api.MaxInt <= n && n <= api.MaxInt && strconv.Itoa(n) == part
}

func number(part string) (api.Number, bool) {
	x, e := surd.Parse(part)
	return x, e == api.OK
}

// paired returns what is made of two lists, of one integer of each; ErrForm unless there are as many in both.
func paired[T any](a, b []int, pair func(x, y int) T) ([]T, api.Errno) {
	if len(a) != len(b) {
		return nil, api.ErrForm
	}
	var l []T
	for i := range a {
		l = append(l, pair(a[i], b[i]))
	}
	return l, api.OK
}
