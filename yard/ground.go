package yard

import (
	"chiti/api"
	"chiti/area"
	"chiti/brick"
	"chiti/shape"
)

// ground is the steps of a ground.
type ground []api.GroundStep

// size returns how many quarters there are behind the last step.
func (g ground) size() (string, api.Errno) {
	counts, _, e := shape.Counts(g)
	if len(counts) == 0 {
		return integers(0), e
	}
	return integers(counts[len(counts)-1]), e
}

func (y *Yard) ground(w words) (string, api.Errno) {
	return y.grounds.add(w.names[0], (*ground).size)
}

func (y *Yard) part(w words) (string, api.Errno) {
	return y.grounds.change(w.names[0], func(g *ground) (string, api.Errno) {
		steps, e := shape.Parse(w.text + "\n")
		if e != api.OK || len(steps) != 1 {
			return "", api.ErrForm
		}
		*g = append(*g, steps...)
		return g.size()
	})
}

// shapeOf returns the shape of the ground with a name.
func (y *Yard) shapeOf(name string) ([]api.Quarter, api.Errno) {
	g, e := y.grounds.named(name)
	if e != api.OK {
		return nil, e
	}
	s, _, e := shape.Build(g)
	return s, e
}

func (y *Yard) print(w words) (string, api.Errno) {
	s, e := y.shapeOf(w.names[0])
	if e != api.OK {
		return "", e
	}
	s, e = brick.Norm(s)
	if e != api.OK {
		return "", e
	}
	return brick.Format(s)
}

func (y *Yard) measure(w words) (string, api.Errno) {
	s, e := y.shapeOf(w.names[0])
	if e != api.OK {
		return "", e
	}
	surface, e := shape.Area(s)
	if e != api.OK {
		return "", e
	}
	around, e := shape.Around(s)
	if e != api.OK {
		return "", e
	}
	center, e := shape.Center(s)
	return numbers(surface, around, center.X, center.Y), e
}

func (y *Yard) size(w words) (string, api.Errno) {
	s, e := y.shapeOf(w.names[0])
	if e != api.OK {
		return "", e
	}
	grown, e := area.Grow(w.numbers[0], w.numbers[1], w.integers[0])
	if e != api.OK {
		return "", e
	}
	side, e := shape.Unit(s, grown)
	return numbers(side), e
}
