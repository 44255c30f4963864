package yard

import (
	"chiti/api"
	"chiti/kiln"
)

func (y *Yard) wares(w words) (string, api.Errno) {
	if y.book != nil {
		return "", api.ErrState
	}
	b, e := kiln.New(w.lists[0], w.integers[0])
	if e != api.OK {
		return "", e
	}
	y.book = b
	return done, api.OK
}

// ask answers what is asked of the book.
func (y *Yard) ask(of func(b *kiln.Book) (string, api.Errno)) (string, api.Errno) {
	if y.book == nil {
		return "", api.ErrState
	}
	return of(y.book)
}

// write does something with the book.
func (y *Yard) write(do func(b *kiln.Book) api.Errno) (string, api.Errno) {
	return y.ask(func(b *kiln.Book) (string, api.Errno) { return done, do(b) })
}

func (y *Yard) mould(w words) (string, api.Errno) {
	return y.write(func(b *kiln.Book) api.Errno { return b.Mould(w.integers[0], w.integers[1]) })
}

func (y *Yard) dry(w words) (string, api.Errno) {
	return y.write(func(b *kiln.Book) api.Errno { return b.Dry(w.integers[0], w.integers[1], w.integers[2]) })
}

func (y *Yard) laid(w words) (string, api.Errno) {
	return y.write(func(b *kiln.Book) api.Errno { return b.Lay(w.integers[0], w.integers[1]) })
}

func (y *Yard) broke(w words) (string, api.Errno) {
	return y.write(func(b *kiln.Book) api.Errno { return b.Break(w.integers[0], w.integers[1]) })
}

func (y *Yard) replace(w words) (string, api.Errno) {
	return y.write(func(b *kiln.Book) api.Errno { return b.Replace(w.integers[0], w.integers[1]) })
}

func (y *Yard) fire(w words) (string, api.Errno) {
	return y.write(func(b *kiln.Book) api.Errno {
		l, e := paired(w.lists[0], w.lists[1], func(kind, n int) api.Batch { return api.Batch{Kind: kind, N: n} })
		if e != api.OK {
			return e
		}
		return b.Fire(l)
	})
}

func (y *Yard) draw(w words) (string, api.Errno) {
	return y.write(func(b *kiln.Book) api.Errno { return b.Draw(w.lists[0]) })
}

func (y *Yard) count(w words) (string, api.Errno) {
	return y.ask(func(b *kiln.Book) (string, api.Errno) {
		s, e := b.Count(w.integers[0])
		return integers(s.Wet, s.Dry, s.Burning, s.Fired, s.Laid, s.Broken, s.Missing), e
	})
}

func (y *Yard) use(w words) (string, api.Errno) {
	return y.ask(func(b *kiln.Book) (string, api.Errno) {
		text, e := y.lay(w)
		if e != api.OK {
			return "", e
		}
		needed, e := bricksNeeded(w.lists[0], w.lists[1])
		if e != api.OK {
			return "", e
		}
		return text, layFired(b, needed)
	})
}

// bricksNeeded returns how many bricks of each kind of the book are needed, if the kinds of a tiling, with their counts, belong to those of a list.
func bricksNeeded(counts, kinds []int) (map[int]int, api.Errno) {
	if len(kinds) != len(counts) {
		return nil, api.ErrForm
	}
	needed := map[int]int{}
	for i, kind := range kinds {
		needed[kind] += counts[i]
	}
	return needed, api.OK
}

// layFired lays bricks of several kinds, if there are all of them.
func layFired(b *kiln.Book, needed map[int]int) api.Errno {
	isShort := false
	for kind, n := range needed {
		s, e := b.Count(kind)
		if e != api.OK {
			return e
		}
		isShort = isShort || s.Fired < n
	}
	if isShort {
		return api.ErrState
	}
	for kind, n := range needed {
		b.Lay(kind, n)
	}
	return api.OK
}

func (*Yard) need(w words) (string, api.Errno) {
	stages, e := paired(w.lists[0], w.lists[1], func(least, most int) api.YardStage { return api.YardStage{Least: least, Most: most} })
	if e != api.OK {
		return "", e
	}
	n, e := kiln.Need(w.integers[0], stages)
	return integers(n), e
}
