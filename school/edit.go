package school

import "chiti/api"

// Invert returns the edits that undo edits.
func Invert(l []api.Edit) ([]api.Edit, api.Errno) {
	if !hasForm(l) {
		return nil, api.ErrForm
	}
	var undone []api.Edit
	grown := 0
	for _, edit := range l {
		undo := api.Edit{Kind: edit.Kind, At: edit.At + grown, Old: edit.New, New: edit.Old}
		switch edit.Kind {
		case api.EditDrop:
			undo.Kind = api.EditAdd
			grown--
		case api.EditAdd:
			undo.Kind = api.EditDrop
			grown++
		}
		if undo.At > api.MaxWords {
			return nil, api.ErrLong
		}
		undone = append(undone, undo)
	}
	return undone, api.OK
}

// hasForm reports whether a list of edits has the right form.
func hasForm(l []api.Edit) bool {
	if len(l) > api.MaxEdits {
		return false
	}
	for i, edit := range l {
		if !isEdit(edit) || i > 0 && !isBehind(l[i-1], edit) {
			return false
		}
	}
	return true
}

func isEdit(edit api.Edit) bool {
	if !isWithin(edit.At, 0, api.MaxWords) {
		return false
	}
	switch edit.Kind {
	case api.EditChange:
		return isWord(edit.Old) && isWord(edit.New) && edit.Old != edit.New
	case api.EditDrop:
		return isWord(edit.Old) && edit.New == ""
	case api.EditAdd:
		return edit.Old == "" && isWord(edit.New)
	}
	return false
}

// isBehind reports whether an edit can come next after another one.
func isBehind(before, edit api.Edit) bool {
	return edit.At > before.At || edit.At == before.At && isAdding(before)
}

func isAdding(edit api.Edit) bool { return edit.Kind == api.EditAdd }
