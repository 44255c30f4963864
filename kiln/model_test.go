package kiln_test

import (
	"math/big"
	"slices"

	"chiti/api"
)

// The model follows the chapter word by word: with fractions of any size, with bricks one by one, and with the cells of each brick of a stack.

func fraction(num, den int) *big.Rat { return big.NewRat(int64(num), int64(den)) }

// modelSide returns the side of a brick for a number of each spread.
func modelSide(side int, d, f *big.Rat) *big.Rat {
	x := fraction(side, 1)
	for _, lost := range []*big.Rat{d, f} {
		x.Mul(x, new(big.Rat).Sub(fraction(10000, 1), lost))
		x.Quo(x, fraction(10000, 1))
	}
	return x
}

// roundedDown returns the greatest integer that is not greater.
func roundedDown(x *big.Rat) int {
	return int(new(big.Int).Div(x.Num(), x.Denom()).Int64())
}

func roundedUp(x *big.Rat) int { return -roundedDown(new(big.Rat).Neg(x)) }

// modelShrunk returns the least spread around the sides for all ends of the spreads of a clay.
func modelShrunk(side int, c api.Clay) api.Spread {
	var s api.Spread
	isFirst := true
	for _, d := range []int{c.Dry.Low, c.Dry.High} {
		for _, f := range []int{c.Fire.Low, c.Fire.High} {
			x := modelSide(side, fraction(d, 1), fraction(f, 1))
			low, high := roundedDown(x), roundedUp(x)
			if isFirst {
				s, isFirst = spread(low, high), false
			}
			s = spread(min(s.Low, low), max(s.High, high))
		}
	}
	return s
}

// modelLeft returns how many bricks can be left, by all numbers that can be lost in each stage.
func modelLeft(n int, l []api.YardStage) api.Spread {
	can := map[int]bool{n: true}
	for _, s := range l {
		then := map[int]bool{}
		for m := range can {
			for lost := m * s.Least / 10000; lost <= m*s.Most/10000; lost++ {
				then[m-lost] = true
			}
		}
		can = then
	}
	all := []int{}
	for m := range can {
		all = append(all, m)
	}
	return spread(slices.Min(all), slices.Max(all))
}

// modelBook is a book with each brick by itself, and the numbers of the places at which one is missing.
type modelBook struct {
	space   []int
	room    int
	bricks  [][]string // of each kind, what each one is
	missing []int
	kiln    []api.Batch
}

func newModelBook(space []int, room int) *modelBook {
	return &modelBook{space: space, room: room, bricks: make([][]string, len(space)), missing: make([]int, len(space))}
}

func (m *modelBook) count(kind int, what string) int {
	n := 0
	for _, is := range m.bricks[kind] {
		if is == what {
			n++
		}
	}
	return n
}

// turn makes the first n bricks of a kind that are something into something else.
func (m *modelBook) turn(kind, n int, from, to string) {
	for i, is := range m.bricks[kind] {
		if is == from && n > 0 {
			m.bricks[kind][i] = to
			n--
		}
	}
}

func (m *modelBook) wares(kind int) api.Wares {
	count := func(what string) int { return m.count(kind, what) }
	return api.Wares{Wet: count("wet"), Dry: count("dry"), Burning: count("burning"), Fired: count("fired"), Laid: count("laid"), Broken: count("broken"), Missing: m.missing[kind]}
}

// wrong returns the first error of those that all methods with a kind and an n have.
func (m *modelBook) wrong(kind, n int) api.Errno {
	switch {
	case kind < 0 || kind >= len(m.space):
		return api.ErrNone
	case n < 0 || n > api.MaxBricks:
		return api.ErrRange
	}
	return api.OK
}

func (m *modelBook) mould(kind, n int) api.Errno {
	if e := m.wrong(kind, n); e != api.OK {
		return e
	}
	if len(m.bricks[kind])+n > api.MaxBricks {
		return api.ErrFull
	}
	for range n {
		m.bricks[kind] = append(m.bricks[kind], "wet")
	}
	return api.OK
}

func (m *modelBook) dry(kind, n, broken int) api.Errno {
	if e := m.wrong(kind, n); e != api.OK {
		return e
	}
	switch {
	case broken < 0 || broken > n:
		return api.ErrArg
	case m.count(kind, "wet") < n:
		return api.ErrState
	}
	m.turn(kind, broken, "wet", "broken")
	m.turn(kind, n-broken, "wet", "dry")
	return api.OK
}

func (m *modelBook) fire(l []api.Batch) api.Errno {
	switch {
	case m.kiln != nil:
		return api.ErrState
	case len(l) == 0:
		return api.ErrArg
	case len(l) > 20:
		return api.ErrLong
	}
	space := 0
	for i, b := range l {
		isBefore := func(other api.Batch) bool { return other.Kind == b.Kind }
		switch {
		case b.Kind < 0 || b.Kind >= len(m.space):
			return api.ErrNone
		case slices.ContainsFunc(l[:i], isBefore):
			return api.ErrTwice
		case b.N < 1 || b.N > api.MaxBricks:
			return api.ErrArg
		case m.count(b.Kind, "dry") < b.N:
			return api.ErrState
		}
		space += b.N * m.space[b.Kind]
	}
	if space > m.room {
		return api.ErrFull
	}
	for _, b := range l {
		m.turn(b.Kind, b.N, "dry", "burning")
	}
	m.kiln = slices.Clone(l)
	return api.OK
}

func (m *modelBook) draw(broken []int) api.Errno {
	switch {
	case m.kiln == nil:
		return api.ErrState
	case len(broken) != len(m.kiln):
		return api.ErrForm
	}
	for i, n := range broken {
		if n < 0 || n > m.kiln[i].N {
			return api.ErrArg
		}
	}
	for i, n := range broken {
		m.turn(m.kiln[i].Kind, n, "burning", "broken")
		m.turn(m.kiln[i].Kind, m.kiln[i].N-n, "burning", "fired")
	}
	m.kiln = nil
	return api.OK
}

func (m *modelBook) lay(kind, n int) api.Errno {
	if e := m.wrong(kind, n); e != api.OK {
		return e
	}
	if m.count(kind, "fired") < n {
		return api.ErrState
	}
	m.turn(kind, n, "fired", "laid")
	return api.OK
}

func (m *modelBook) breaks(kind, n int) api.Errno {
	if e := m.wrong(kind, n); e != api.OK {
		return e
	}
	if m.count(kind, "laid") < n {
		return api.ErrState
	}
	m.turn(kind, n, "laid", "broken")
	m.missing[kind] += n
	return api.OK
}

func (m *modelBook) replace(kind, n int) api.Errno {
	if e := m.wrong(kind, n); e != api.OK {
		return e
	}
	if m.count(kind, "fired") < n || m.missing[kind] < n {
		return api.ErrState
	}
	m.turn(kind, n, "fired", "laid")
	m.missing[kind] -= n
	return api.OK
}

// modelCells returns the cells of a brick of a stack.
func modelCells(s api.Stack, b api.StackBrick) []int {
	var l []int
	for cell := range s.Width * s.Height {
		if s.Tiers[b.Tier].Cells[cell] == b.Brick {
			l = append(l, cell)
		}
	}
	return l
}

// modelBricks returns the bricks of a tier.
func modelBricks(s api.Stack, tier int) []api.StackBrick {
	var l []api.StackBrick
	for brick := range s.Tiers[tier].Weights {
		l = append(l, at(tier, brick))
	}
	return l
}

// modelRests returns the cells on which a brick rests.
func modelRests(s api.Stack, b api.StackBrick) []int {
	l := modelCells(s, b)
	if b.Tier == 0 {
		return l
	}
	return slices.DeleteFunc(l, func(cell int) bool { return s.Tiers[b.Tier-1].Cells[cell] < 0 })
}

func modelHangs(s api.Stack) api.StackBrick {
	for tier := range s.Tiers {
		for _, b := range modelBricks(s, tier) {
			if len(modelRests(s, b)) == 0 {
				return b
			}
		}
	}
	return nowhere()
}

func modelFree(s api.Stack) []api.StackBrick {
	var l []api.StackBrick
	for tier := len(s.Tiers) - 1; tier >= 0; tier-- {
		for _, b := range modelBricks(s, tier) {
			isAbove := false
			for _, cell := range modelCells(s, b) {
				isAbove = isAbove || tier+1 < len(s.Tiers) && s.Tiers[tier+1].Cells[cell] >= 0
			}
			if !isAbove {
				l = append(l, b)
			}
		}
	}
	return l
}

// modelLoads is the loads of a stack, and where the first number was too great.
type modelLoads struct {
	api.Stack
	bricks [][]*big.Rat
	floor  []*big.Rat
	over   string
}

// seen takes note of a number that is computed.
func (m *modelLoads) seen(x *big.Rat, what string) *big.Rat {
	most := big.NewInt(api.MaxLoad)
	if m.over == "" && (x.Num().Cmp(most) > 0 || x.Denom().Cmp(most) > 0) {
		m.over = what
	}
	return x
}

// modelLoadsOf returns the loads of a stack in which no brick rests on nothing.
func modelLoadsOf(s api.Stack) *modelLoads {
	m := &modelLoads{Stack: s, bricks: make([][]*big.Rat, len(s.Tiers))}
	pressing := map[api.StackBrick]*big.Rat{}
	// pressed is what presses on a cell of a tier; the floor is the tier -1.
	pressed := func(tier, cell int) *big.Rat {
		if tier+1 < len(s.Tiers) && s.Tiers[tier+1].Cells[cell] >= 0 {
			b := at(tier+1, s.Tiers[tier+1].Cells[cell])
			if slices.Contains(modelRests(s, b), cell) {
				return pressing[b]
			}
		}
		return new(big.Rat)
	}
	for tier := len(s.Tiers) - 1; tier >= 0; tier-- {
		for _, b := range modelBricks(s, tier) {
			sum := new(big.Rat)
			for _, cell := range modelCells(s, b) {
				sum = m.seen(new(big.Rat).Add(sum, pressed(tier, cell)), "load")
			}
			m.bricks[tier] = append(m.bricks[tier], sum)
			sum = m.seen(new(big.Rat).Add(sum, fraction(s.Tiers[tier].Weights[b.Brick], 1)), "sum")
			pressing[b] = m.seen(new(big.Rat).Quo(sum, fraction(len(modelRests(s, b)), 1)), "press")
		}
	}
	for cell := range s.Width * s.Height {
		m.floor = append(m.floor, pressed(-1, cell))
	}
	return m
}

// loadsOf returns fractions as loads.
func loadsOf(l []*big.Rat) []api.Load {
	var all []api.Load
	for _, x := range l {
		all = append(all, load(int(x.Num().Int64()), int(x.Denom().Int64())))
	}
	return all
}

// modelCrushed returns the first brick whose load is greater than what all of its cells bear together.
func modelCrushed(m *modelLoads, bears []int) api.StackBrick {
	for tier := range m.Tiers {
		for _, b := range modelBricks(m.Stack, tier) {
			can := fraction(bears[tier]*len(modelCells(m.Stack, b)), 1)
			if m.bricks[tier][b.Brick].Cmp(can) > 0 {
				return b
			}
		}
	}
	return nowhere()
}
