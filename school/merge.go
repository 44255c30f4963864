package school

import (
	"slices"

	"chiti/api"
)

// Merge returns a text with the changes of two others.
func Merge(base, a, b []string) (c []string, at int, e api.Errno) {
	if !areTexts(base, a, b) {
		return nil, 0, api.ErrArg
	}
	l, m := align(base, a), align(base, b)
	var merged []api.Edit
	for at := range len(base) + 1 {
		edits, isClash := mergedAt(at, l, m)
		if isClash {
			return nil, at, api.ErrClash
		}
		merged = append(merged, edits...)
	}
	c, e = edited(base, merged)
	return c, 0, e
}

// mergedAt returns the edits of two lists that concern a word, each of them once, and whether they clash.
func mergedAt(at int, l, m []api.Edit) (edits []api.Edit, isClash bool) {
	for _, adds := range [...]bool{true, false} {
		isMeant := func(edit api.Edit) bool { return edit.At == at && isAdding(edit) == adds }
		ours, theirs := those(l, isMeant), those(m, isMeant)
		switch {
		case len(ours) == 0:
			edits = append(edits, theirs...)
		case len(theirs) == 0 || slices.Equal(ours, theirs):
			edits = append(edits, ours...)
		default:
			return nil, true
		}
	}
	return edits, false
}

// those returns the edits for which a condition holds.
func those(l []api.Edit, isMeant func(edit api.Edit) bool) []api.Edit {
	var found []api.Edit
	for _, edit := range l {
		if isMeant(edit) {
			found = append(found, edit)
		}
	}
	return found
}
