package yard

import (
	"strconv"
	"strings"

	"chiti/api"
	"chiti/surd"
)

// done is the answer where there is nothing to tell.
const done = "ok"

// integers returns the words of integers.
func integers(l ...int) string { return strings.Join(texts(strconv.Itoa, l...), space) }

// numbers returns the words of valid numbers.
func numbers(l ...api.Number) string {
	write := func(x api.Number) string {
		text, _ := surd.Format(x)
		return text
	}
	return strings.Join(texts(write, l...), space)
}

// list returns the word of a list.
func list(l []int) string { return listed(texts(strconv.Itoa, l...)) }

// listed returns the word of some parts.
func listed(parts []string) string {
	if len(parts) == 0 {
		return none
	}
	return strings.Join(parts, comma)
}

// texts returns what is written of all elements of a list.
func texts[T any](write func(x T) string, l ...T) []string {
	var all []string
	for _, x := range l {
		all = append(all, write(x))
	}
	return all
}
