package school

import (
	"slices"

	"chiti/api"
)

// Apply carries out edits of a text.
func Apply(a []string, l []api.Edit) (b []string, at int, e api.Errno) {
	switch {
	case !areTexts(a):
		return nil, 0, api.ErrArg
	case !hasForm(l):
		return nil, 0, api.ErrForm
	}
	for at, edit := range l {
		if e := checkEdit(a, edit); e != api.OK {
			return nil, at, e
		}
	}
	b, e = edited(a, l)
	return b, 0, e
}

// areTexts reports whether all of some lists of words are texts.
func areTexts(texts ...[]string) bool {
	isBad := func(word string) bool { return !isWord(word) }
	isNone := func(text []string) bool { return len(text) > api.MaxWords || slices.ContainsFunc(text, isBad) }
	return !slices.ContainsFunc(texts, isNone)
}

func isWord(s string) bool {
	if !isWithin(len(s), 1, api.MaxWord) {
		return false
	}
	for _, letter := range s {
		if letter < 'a' || letter > 'z' {
			return false
		}
	}
	return true
}

// checkEdit returns the error of an edit for a text.
func checkEdit(a []string, edit api.Edit) api.Errno {
	switch {
	case edit.At > len(a) || edit.At == len(a) && !isAdding(edit):
		return api.ErrRange
	case !isAdding(edit) && a[edit.At] != edit.Old:
		return api.ErrOther
	}
	return api.OK
}

// edited returns a text after edits that have the right form and no error for it.
func edited(a []string, l []api.Edit) ([]string, api.Errno) {
	var b []string
	done := 0
	for _, edit := range l {
		b = append(b, a[done:edit.At]...)
		done = edit.At
		if !isAdding(edit) {
			done++
		}
		if edit.Kind != api.EditDrop {
			b = append(b, edit.New)
		}
	}
	b = append(b, a[done:]...)
	if len(b) > api.MaxWords {
		return nil, api.ErrLong
	}
	return b, api.OK
}
