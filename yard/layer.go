package yard

import (
	"strconv"
	"strings"

	"chiti/api"
	"chiti/brick"
	"chiti/layer"
)

// task returns what is to be laid: a ground, kinds of bricks, and how many of each.
func (y *Yard) task(w words) (api.Task, api.Errno) {
	s, e := y.shapeOf(w.names[0])
	if e != api.OK {
		return api.Task{}, e
	}
	t := api.Task{Ground: s, Counts: w.lists[0]}
	for _, name := range w.kinds {
		kind, e := brick.Kind(name)
		if e != api.OK {
			return api.Task{}, e
		}
		t.Kinds = append(t.Kinds, kind)
	}
	return t, api.OK
}

func (y *Yard) lay(w words) (string, api.Errno) {
	t, e := y.task(w)
	if e != api.OK {
		return "", e
	}
	l, e := layer.First(t)
	return w.bricks(l), e
}

func (y *Yard) tilings(w words) (string, api.Errno) {
	t, e := y.task(w)
	if e != api.OK {
		return "", e
	}
	all, unlike, nodes, e := layer.Count(t)
	return integers(all, unlike, nodes), e
}

func (y *Yard) layers(w words) (string, api.Errno) {
	t, e := y.task(w)
	if e != api.OK {
		return "", e
	}
	plan, e := layer.Layers(t, w.integers[0])
	return strings.Join(texts(w.bricks, plan...), " / "), e
}

// bricks returns the words of bricks whose kinds have the names of a command.
func (w words) bricks(l []api.Laid) string {
	return strings.Join(texts(w.brick, l...), space)
}

func (w words) brick(b api.Laid) string {
	p := b.Place
	parts := append([]string{w.kinds[b.Kind]}, texts(strconv.Itoa, p.X, p.Y, p.Turns)...)
	if p.Mirror {
		parts = append(parts, "r")
	}
	return strings.Join(parts, ":")
}
