package yard

import "chiti/api"

// things are those of a sort, by their names.
type things[T any] map[string]T

// change is what is done with a thing, and its answer; behind an error, the thing is of no use.
type change[T any] func(x *T) (string, api.Errno)

// named returns the thing with a name.
func (l things[T]) named(name string) (T, api.Errno) {
	x, isThere := l[name]
	if !isThere {
		return x, api.ErrNone
	}
	return x, api.OK
}

// add makes a new thing by a change.
func (l *things[T]) add(name string, first change[T]) (string, api.Errno) {
	x, e := l.named(name)
	switch {
	case e == api.OK:
		return "", api.ErrTwice
	case len(*l) == api.MaxThings:
		return "", api.ErrFull
	case *l == nil:
		*l = things[T]{}
	}
	return l.keep(name, x, first)
}

// change changes the thing with a name.
func (l things[T]) change(name string, next change[T]) (string, api.Errno) {
	x, e := l.named(name)
	if e != api.OK {
		return "", e
	}
	return l.keep(name, x, next)
}

// keep puts a thing, as it is behind a change, in the place of what has its name; with an error all stays as it was.
func (l things[T]) keep(name string, x T, do change[T]) (string, api.Errno) {
	text, e := do(&x)
	if e == api.OK {
		l[name] = x
	}
	return text, e
}
