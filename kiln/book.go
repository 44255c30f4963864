package kiln

import (
	"slices"

	"chiti/api"
)

// Book is the book of a yard.
type Book struct {
	stores []store
	room   int
	inside []api.Batch // what is in the kiln, if it is fired
}

// store is the bricks of a kind.
type store struct {
	api.Wares
	space int // that each of them takes in the kiln
}

// change is what is done with the bricks of a store; it may take more of them than there are, which is found out behind it.
type change func(s *store) api.Errno

// New returns a book.
func New(space []int, room int) (*Book, api.Errno) {
	if !areWithin(1, api.MaxWares, len(space)) || !areWithin(1, api.MaxSpace, space...) || !areWithin(0, api.MaxBricks, room) {
		return nil, api.ErrArg
	}
	b := &Book{room: room}
	for _, n := range space {
		b.stores = append(b.stores, store{space: n})
	}
	return b, api.OK
}

// Mould moulds bricks.
func (b *Book) Mould(kind, n int) api.Errno {
	return b.carryOut(kind, n, func(s *store) api.Errno {
		if s.moulded()+n > api.MaxBricks {
			return api.ErrFull
		}
		s.Wet += n
		return api.OK
	})
}

// Dry dries bricks, of which some break.
func (b *Book) Dry(kind, n, broken int) api.Errno {
	return b.carryOut(kind, n, func(s *store) api.Errno {
		if !areWithin(0, n, broken) {
			return api.ErrArg
		}
		s.Wet -= n
		s.Dry += n - broken
		s.Broken += broken
		return api.OK
	})
}

// Fire puts batches into the kiln.
func (b *Book) Fire(l []api.Batch) api.Errno {
	switch {
	case b == nil:
		return api.ErrNil
	case b.isFired():
		return api.ErrState
	case len(l) == 0:
		return api.ErrArg
	case len(l) > api.MaxBatches:
		return api.ErrLong
	}
	stores, e := b.filled(l)
	if e != api.OK {
		return e
	}
	b.stores, b.inside = stores, slices.Clone(l)
	return api.OK
}

// Draw empties the kiln; of each batch some bricks are broken.
func (b *Book) Draw(broken []int) api.Errno {
	switch {
	case b == nil:
		return api.ErrNil
	case !b.isFired():
		return api.ErrState
	case len(broken) != len(b.inside):
		return api.ErrForm
	}
	for i, batch := range b.inside {
		if !areWithin(0, batch.N, broken[i]) {
			return api.ErrArg
		}
	}
	for i, batch := range b.inside {
		s := &b.stores[batch.Kind]
		s.Burning -= batch.N
		s.Fired += batch.N - broken[i]
		s.Broken += broken[i]
	}
	b.inside = nil
	return api.OK
}

// Lay lays bricks.
func (b *Book) Lay(kind, n int) api.Errno {
	return b.carryOut(kind, n, func(s *store) api.Errno {
		s.Fired -= n
		s.Laid += n
		return api.OK
	})
}

// Break breaks bricks that were laid.
func (b *Book) Break(kind, n int) api.Errno {
	return b.carryOut(kind, n, func(s *store) api.Errno {
		s.Laid -= n
		s.Broken += n
		s.Missing += n
		return api.OK
	})
}

// Replace lays bricks in the place of broken ones.
func (b *Book) Replace(kind, n int) api.Errno {
	return b.carryOut(kind, n, func(s *store) api.Errno {
		s.Fired -= n
		s.Missing -= n
		s.Laid += n
		return api.OK
	})
}

// Count returns how many bricks of a kind there are.
func (b *Book) Count(kind int) (api.Wares, api.Errno) {
	switch {
	case b == nil:
		return api.Wares{}, api.ErrNil
	case !b.has(kind):
		return api.Wares{}, api.ErrNone
	}
	return b.stores[kind].Wares, api.OK
}

func (b *Book) has(kind int) bool { return areWithin(0, len(b.stores)-1, kind) }

// isFired reports whether the kiln is fired: it never is without a batch.
func (b *Book) isFired() bool { return len(b.inside) > 0 }

// carryOut carries out a change of n bricks of a kind.
func (b *Book) carryOut(kind, n int, c change) api.Errno {
	switch {
	case b == nil:
		return api.ErrNil
	case !b.has(kind):
		return api.ErrNone
	case !areWithin(0, api.MaxBricks, n):
		return api.ErrRange
	}
	s, e := b.stores[kind].changed(c)
	if e != api.OK {
		return e
	}
	b.stores[kind] = s
	return api.OK
}

// filled returns the stores as they are when batches have been put into the kiln.
func (b *Book) filled(l []api.Batch) ([]store, api.Errno) {
	stores := slices.Clone(b.stores)
	isSeen := map[int]bool{}
	space := 0
	for _, batch := range l {
		switch {
		case !b.has(batch.Kind):
			return nil, api.ErrNone
		case isSeen[batch.Kind]:
			return nil, api.ErrTwice
		case !areWithin(1, api.MaxBricks, batch.N):
			return nil, api.ErrArg
		}
		isSeen[batch.Kind] = true
		s, e := stores[batch.Kind].changed(func(s *store) api.Errno {
			s.Dry -= batch.N
			s.Burning += batch.N
			return api.OK
		})
		if e != api.OK {
			return nil, e
		}
		stores[batch.Kind] = s
		space += batch.N * s.space
	}
	if space > b.room {
		return nil, api.ErrFull
	}
	return stores, api.OK
}

// changed returns the store as it is behind a change; ErrState if it takes more bricks than there are.
func (s store) changed(c change) (store, api.Errno) {
	switch e := c(&s); {
	case e != api.OK:
		return store{}, e
	case min(s.Wet, s.Dry, s.Fired, s.Laid, s.Missing) < 0:
		return store{}, api.ErrState
	}
	return s, api.OK
}

// moulded returns how many bricks were moulded in all: each of them is still in the book.
func (s store) moulded() int {
	return s.Wet + s.Dry + s.Burning + s.Fired + s.Laid + s.Broken
}
