package school

import "chiti/api"

// Align returns the fewest edits that make a text of another one.
func Align(a, b []string) ([]api.Edit, api.Errno) {
	if !areTexts(a, b) {
		return nil, api.ErrArg
	}
	return align(a, b), api.OK
}

// ahead is how many edits are needed at least to make the words of one text from a number on of those of another one.
type ahead [api.MaxWords + 1][api.MaxWords + 1]int

func aheadOf(a, b []string) ahead {
	var needed ahead
	for at := len(a); at >= 0; at-- {
		for to := len(b); to >= 0; to-- {
			switch {
			case at == len(a) || to == len(b):
				needed[at][to] = len(a) - at + len(b) - to
			case a[at] == b[to]:
				needed[at][to] = needed[at+1][to+1]
			default:
				needed[at][to] = 1 + min(needed[at+1][to+1], needed[at+1][to], needed[at][to+1])
			}
		}
	}
	return needed
}

// align returns the fewest edits that make a text of another one. Keeping equal words never takes more of them than another way.
func align(a, b []string) []api.Edit {
	needed := aheadOf(a, b)
	var l []api.Edit
	for at, to := 0, 0; at < len(a) || to < len(b); {
		isBest := func(nextAt, nextTo int) bool {
			return nextAt <= len(a) && nextTo <= len(b) && needed[nextAt][nextTo] == needed[at][to]-1
		}
		switch {
		case at < len(a) && to < len(b) && a[at] == b[to]:
			at, to = at+1, to+1
		case isBest(at+1, to+1):
			l = append(l, api.Edit{Kind: api.EditChange, At: at, Old: a[at], New: b[to]})
			at, to = at+1, to+1
		case isBest(at+1, to):
			l = append(l, api.Edit{Kind: api.EditDrop, At: at, Old: a[at]})
			at++
		default:
			l = append(l, api.Edit{Kind: api.EditAdd, At: at, New: b[to]})
			to++
		}
	}
	return l
}
