package yard

import (
	"chiti/api"
	"chiti/peg"
)

// construction is where a construction begins, and its steps.
type construction struct {
	start [2]api.Point
	steps []api.PegStep
}

func (c construction) pegs() ([]api.Point, api.Errno) {
	pegs, _, e := peg.Run(c.start, c.steps)
	return pegs, e
}

// size returns how many pegs there are.
func (c construction) size() (string, api.Errno) {
	pegs, e := c.pegs()
	return integers(len(pegs)), e
}

func (y *Yard) construct(w words) (string, api.Errno) {
	return y.constructions.add(w.names[0], func(c *construction) (string, api.Errno) {
		x := w.numbers
		c.start = [2]api.Point{{X: x[0], Y: x[1]}, {X: x[2], Y: x[3]}}
		return c.size()
	})
}

func (y *Yard) step(w words) (string, api.Errno) {
	return y.constructions.change(w.names[0], func(c *construction) (string, api.Errno) {
		steps, _, e := peg.Read(w.text + "\n")
		if e != api.OK || len(steps) != 1 {
			return "", api.ErrForm
		}
		c.steps = append(c.steps, steps...)
		return c.size()
	})
}

// pegsOf returns all pegs of the construction with a name.
func (y *Yard) pegsOf(name string) ([]api.Point, api.Errno) {
	c, e := y.constructions.named(name)
	if e != api.OK {
		return nil, e
	}
	return c.pegs()
}

// chosen returns the pegs of a construction with some numbers.
func (y *Yard) chosen(name string, l ...int) ([]api.Point, api.Errno) {
	pegs, e := y.pegsOf(name)
	if e != api.OK {
		return nil, e
	}
	var chosen []api.Point
	for _, n := range l {
		if n < 0 || n >= len(pegs) {
			return nil, api.ErrNone
		}
		chosen = append(chosen, pegs[n])
	}
	return chosen, api.OK
}

func (y *Yard) peg(w words) (string, api.Errno) {
	pegs, e := y.chosen(w.names[0], w.integers[0])
	if e != api.OK {
		return "", e
	}
	return numbers(pegs[0].X, pegs[0].Y), api.OK
}

func (y *Yard) corners(w words) (string, api.Errno) {
	pegs, e := y.chosen(w.names[0], w.lists[0]...)
	if e != api.OK {
		return "", e
	}
	area, e := peg.Area(pegs)
	return numbers(area), e
}

func (y *Yard) holds(w words) (string, api.Errno) {
	pegs, e := y.pegsOf(w.names[0])
	if e != api.OK {
		return "", e
	}
	kinds := map[string]api.ClaimKind{"equal": api.ClaimEqual, "right": api.ClaimRight, "line": api.ClaimLine}
	kind, isKind := kinds[w.text]
	if !isKind {
		return "", api.ErrForm
	}
	holds, e := peg.Holds(pegs, api.PegClaim{Kind: kind, Pegs: w.lists[0]})
	if holds {
		return "yes", e
	}
	return "no", e
}
