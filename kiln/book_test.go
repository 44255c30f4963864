package kiln_test

import (
	"slices"
	"testing"

	"chiti/api"
	"chiti/kiln"
)

// deed is what is done with a book, and the error that it should have.
type deed struct {
	name string
	do   func(b *kiln.Book) api.Errno
	e    api.Errno
}

func mould(kind, n int, e api.Errno) deed {
	return deed{"mould " + told([]int{kind, n}), func(b *kiln.Book) api.Errno { return b.Mould(kind, n) }, e}
}

func dry(kind, n, broken int, e api.Errno) deed {
	return deed{"dry " + told([]int{kind, n, broken}), func(b *kiln.Book) api.Errno { return b.Dry(kind, n, broken) }, e}
}

func fire(e api.Errno, l ...api.Batch) deed {
	return deed{"fire " + told(l), func(b *kiln.Book) api.Errno { return b.Fire(l) }, e}
}

func draw(e api.Errno, broken ...int) deed {
	return deed{"draw " + told(broken), func(b *kiln.Book) api.Errno { return b.Draw(broken) }, e}
}

func lay(kind, n int, e api.Errno) deed {
	return deed{"lay " + told([]int{kind, n}), func(b *kiln.Book) api.Errno { return b.Lay(kind, n) }, e}
}

func breaks(kind, n int, e api.Errno) deed {
	return deed{"break " + told([]int{kind, n}), func(b *kiln.Book) api.Errno { return b.Break(kind, n) }, e}
}

func replace(kind, n int, e api.Errno) deed {
	return deed{"replace " + told([]int{kind, n}), func(b *kiln.Book) api.Errno { return b.Replace(kind, n) }, e}
}

// all returns the wares of all kinds of a book, up to the first number that is none of a kind.
func all(b *kiln.Book) []api.Wares {
	var l []api.Wares
	for kind := range api.MaxWares + 1 {
		w, e := b.Count(kind)
		if e != api.OK {
			break
		}
		l = append(l, w)
	}
	return l
}

// carry carries out deeds, tests their errors, and that nothing has changed with an error.
func carry(t *testing.T, b *kiln.Book, deeds ...deed) {
	t.Helper()
	for i, d := range deeds {
		before := all(b)
		if e := d.do(b); e != d.e {
			t.Error(i, d.name, e)
		}
		if d.e != api.OK && !slices.Equal(all(b), before) {
			t.Error("changed", i, d.name, before, all(b))
		}
	}
}

// holds tests what there is in a book.
func holds(t *testing.T, b *kiln.Book, want ...api.Wares) {
	t.Helper()
	if l := all(b); !slices.Equal(l, want) {
		t.Error(l, want)
	}
}

// P8.5: what a book can be.
func TestNew(t *testing.T) {
	for i, c := range []struct {
		space []int
		room  int
		ok    bool
	}{
		{[]int{1}, 0, true},
		{[]int{1000}, 1000000000, true},
		{slices.Repeat([]int{1}, 20), 7, true},
		{slices.Repeat([]int{1}, 21), 7, false},
		{nil, 7, false},
		{[]int{}, 7, false},
		{[]int{0}, 7, false},
		{[]int{1001}, 7, false},
		{[]int{-1}, 7, false},
		{[]int{1, 1, 0}, 7, false},
		{[]int{0, 1, 1}, 7, false},
		{[]int{1, 1001, 1}, 7, false},
		{[]int{1}, -1, false},
		{[]int{1}, 1000000001, false},
		{make([]int, 1<<18), 7, false},
	} {
		b, e := kiln.New(c.space, c.room)
		if !c.ok {
			if b != nil || e != api.ErrArg {
				t.Error(i, b, e)
			}
			continue
		}
		if b == nil || e != api.OK {
			t.Fatal(i, e)
		}
		holds(t, b, make([]api.Wares, len(c.space))...)
		carry(t, b, draw(api.ErrState), lay(0, 1, api.ErrState), breaks(0, 1, api.ErrState), replace(0, 1, api.ErrState), dry(0, 1, 0, api.ErrState), fire(api.ErrState, batch(0, 1)))
	}
	for _, n := range extremes() {
		_, e := kiln.New([]int{n}, 1)
		_, f := kiln.New([]int{1}, n)
		if (e == api.OK) != (1 <= n && n <= 1000) || (f == api.OK) != (0 <= n && n <= 1000000000) {
			t.Error(n, e, f)
		}
	}
}

// P8.5: no more than MaxBricks are moulded of a kind, whatever became of them.
func TestMould(t *testing.T) {
	b := book(t, 1000000000, 1, 1)
	carry(t, b,
		mould(0, 0, api.OK),
		mould(0, 7, api.OK),
		mould(0, 0, api.OK),
	)
	holds(t, b, api.Wares{Wet: 7}, api.Wares{})
	carry(t, b,
		mould(0, 999999994, api.ErrFull),
		mould(0, 1000000000, api.ErrFull),
		mould(0, 999999992, api.OK),
		mould(0, 2, api.ErrFull),
		mould(1, 1000000000, api.OK),
		mould(1, 1, api.ErrFull),
		mould(1, 0, api.OK),
		mould(0, 1, api.OK),
		mould(0, 1, api.ErrFull),
	)
	holds(t, b, api.Wares{Wet: 1000000000}, api.Wares{Wet: 1000000000})
	full := func() { carry(t, b, mould(0, 1, api.ErrFull), mould(0, 0, api.OK)) }
	for _, d := range []deed{
		dry(0, 900000000, 100000000, api.OK),
		fire(api.OK, batch(0, 700000000)),
		draw(api.OK, 1),
		lay(0, 600000000, api.OK),
		breaks(0, 500000000, api.OK),
		replace(0, 50000000, api.OK),
	} {
		carry(t, b, d)
		full()
	}
	holds(t, b, api.Wares{Wet: 100000000, Dry: 100000000, Fired: 49999999, Laid: 150000000, Broken: 600000001, Missing: 450000000}, api.Wares{Wet: 1000000000})
}

// P8.5 to P8.8: the errors of methods with a kind and an n come first, in their order.
func TestKinds(t *testing.T) {
	b := book(t, 9, 1, 1)
	carry(t, b, mould(0, 9, api.OK), mould(1, 9, api.OK), dry(1, 5, 0, api.OK), fire(api.OK, batch(1, 4)))
	deeds := func(kind, n int, e api.Errno) []deed {
		return []deed{mould(kind, n, e), dry(kind, n, -1, e), lay(kind, n, e), breaks(kind, n, e), replace(kind, n, e)}
	}
	for _, kind := range []int{-1, 2, 20, -1 << 63, 1<<63 - 1} {
		for _, n := range []int{0, 1, -1, 1000000001} {
			carry(t, b, deeds(kind, n, api.ErrNone)...)
		}
		if w, e := b.Count(kind); w != (api.Wares{}) || e != api.ErrNone {
			t.Error(kind, w, e)
		}
	}
	for _, n := range []int{-1, 1000000001, -1 << 63, 1<<63 - 1} {
		carry(t, b, deeds(0, n, api.ErrRange)...)
		carry(t, b, deeds(1, n, api.ErrRange)...)
	}
	carry(t, b, mould(0, 1000000000, api.ErrFull), dry(0, 1000000000, 0, api.ErrState), lay(0, 1000000000, api.ErrState), breaks(0, 1000000000, api.ErrState), replace(0, 1000000000, api.ErrState))
	carry(t, b, mould(0, 0, api.OK), dry(0, 0, 0, api.OK), lay(0, 0, api.OK), breaks(0, 0, api.OK), replace(0, 0, api.OK))
	holds(t, b, api.Wares{Wet: 9}, api.Wares{Wet: 4, Dry: 1, Burning: 4})
}

// P8.6: of the wet bricks some break, and the others are dry.
func TestDry(t *testing.T) {
	b := book(t, 9, 1, 1)
	carry(t, b,
		mould(1, 10, api.OK),
		dry(1, 8, -1, api.ErrArg),
		dry(1, 8, 9, api.ErrArg),
		dry(1, 11, 12, api.ErrArg),
		dry(1, 11, -1, api.ErrArg),
		dry(1, 11, 11, api.ErrState),
		dry(1, 11, 0, api.ErrState),
		dry(1, 0, 1, api.ErrArg),
		dry(1, 1, 1<<63-1, api.ErrArg),
		dry(1, 1, -1<<63, api.ErrArg),
		dry(0, 1, 0, api.ErrState),
		dry(1, 5, 1, api.OK),
	)
	holds(t, b, api.Wares{}, api.Wares{Wet: 5, Dry: 4, Broken: 1})
	carry(t, b, dry(1, 6, 0, api.ErrState), dry(1, 2, 2, api.OK), dry(1, 3, 0, api.OK), dry(1, 1, 1, api.ErrState))
	holds(t, b, api.Wares{}, api.Wares{Dry: 7, Broken: 3})
}

// P8.7: errors of Fire, in their order.
func TestFire(t *testing.T) {
	b := book(t, 20, 1, 3, 1000)
	carry(t, b, mould(0, 30, api.OK), dry(0, 21, 0, api.OK), mould(1, 9, api.OK), dry(1, 9, 0, api.OK), mould(2, 2, api.OK), dry(2, 1, 0, api.OK))
	carry(t, b,
		fire(api.ErrArg),
		fire(api.ErrLong, make([]api.Batch, 21)...),
		fire(api.ErrLong, slices.Repeat(batches(batch(3, -1)), 21)...),
		fire(api.ErrTwice, slices.Repeat(batches(batch(0, 1)), 20)...),
		fire(api.ErrNone, batch(3, 1)),
		fire(api.ErrNone, batch(-1, 0)),
		fire(api.ErrNone, batch(1, 1), batch(3, 1)),
		fire(api.ErrNone, batch(3, 1), batch(3, 1)),
		fire(api.ErrTwice, batch(0, 1), batch(1, 1), batch(0, 1)),
		fire(api.ErrTwice, batch(0, 1), batch(0, -1)),
		fire(api.ErrTwice, batch(1, 1), batch(1, 99)),
		fire(api.ErrArg, batch(0, 0)),
		fire(api.ErrArg, batch(0, -1)),
		fire(api.ErrArg, batch(0, 1000000001)),
		fire(api.ErrArg, batch(0, 1<<63-1)),
		fire(api.ErrArg, batch(0, -1<<63)),
		fire(api.ErrArg, batch(0, 1), batch(1, 0), batch(0, 1)),
		fire(api.ErrState, batch(0, 1000000000)),
		fire(api.ErrState, batch(0, 22)),
		fire(api.ErrState, batch(1, 10)),
		fire(api.ErrState, batch(2, 2)),
		fire(api.ErrState, batch(0, 22), batch(3, 1)),
		fire(api.ErrState, batch(0, 21), batch(1, 10)),
		fire(api.ErrState, batch(2, 2), batch(2, 1)),
		fire(api.ErrFull, batch(0, 21)),
		fire(api.ErrFull, batch(1, 7)),
		fire(api.ErrFull, batch(2, 1)),
		fire(api.ErrFull, batch(0, 3), batch(1, 6)),
		fire(api.ErrFull, batch(1, 6), batch(0, 3)),
		fire(api.ErrNone, batch(0, 21), batch(3, 1)),
	)
	carry(t, b, fire(api.OK, batch(1, 6), batch(0, 2)))
	holds(t, b, api.Wares{Wet: 9, Dry: 19, Burning: 2}, api.Wares{Dry: 3, Burning: 6}, api.Wares{Wet: 1, Dry: 1})
	carry(t, b,
		fire(api.ErrState, batch(0, 1)),
		fire(api.ErrState),
		fire(api.ErrState, make([]api.Batch, 21)...),
		fire(api.ErrState, batch(3, 1)),
		draw(api.OK, 0, 0),
		fire(api.OK, batch(0, 19)),
	)
	holds(t, b, api.Wares{Wet: 9, Burning: 19, Fired: 2}, api.Wares{Dry: 3, Fired: 6}, api.Wares{Wet: 1, Dry: 1})
}

// P8.7: all kinds can be fired together, and the room is used up to its end.
func TestRoom(t *testing.T) {
	b := book(t, 1000000000, slices.Repeat([]int{1000}, 20)...)
	var fitting, more []api.Batch
	for kind := range 20 {
		carry(t, b, mould(kind, 1000000000, api.OK), dry(kind, 1000000000, 0, api.OK))
		fitting = append(fitting, batch(kind, 50000))
		more = append(more, batch(kind, 1000000000))
	}
	carry(t, b,
		fire(api.ErrFull, more...),
		fire(api.ErrFull, batch(0, 1000001)),
		fire(api.ErrFull, append(slices.Clone(fitting[1:]), batch(0, 50001))...),
		fire(api.OK, fitting...),
		fire(api.ErrState, batch(0, 1)),
		draw(api.ErrForm, make([]int, 19)...),
		draw(api.OK, make([]int, 20)...),
		fire(api.OK, batch(7, 1000000)),
	)
	none := book(t, 0, 1)
	carry(t, none, mould(0, 1, api.OK), dry(0, 1, 0, api.OK), fire(api.ErrFull, batch(0, 1)), fire(api.ErrArg), draw(api.ErrState))
	holds(t, none, api.Wares{Dry: 1})
}

// P8.7: what Draw does, and its errors in their order.
func TestDraw(t *testing.T) {
	b := book(t, 99, 1, 3, 2)
	carry(t, b, mould(0, 9, api.OK), mould(1, 9, api.OK), mould(2, 9, api.OK), dry(0, 8, 0, api.OK), dry(1, 7, 1, api.OK), dry(2, 6, 2, api.OK))
	carry(t, b,
		draw(api.ErrState),
		draw(api.ErrState, 0),
		fire(api.OK, batch(2, 3), batch(0, 5)),
		draw(api.ErrForm),
		draw(api.ErrForm, -1),
		draw(api.ErrForm, 0, 0, 0),
		draw(api.ErrForm, 0, 0, -1),
		draw(api.ErrArg, 0, -1),
		draw(api.ErrArg, 0, 6),
		draw(api.ErrArg, 4, 0),
		draw(api.ErrArg, -1, 5),
		draw(api.ErrArg, 1<<63-1, -1<<63),
		draw(api.OK, 3, 1),
		draw(api.ErrState, 3, 1),
		draw(api.ErrState),
	)
	holds(t, b, api.Wares{Wet: 1, Dry: 3, Fired: 4, Broken: 1}, api.Wares{Wet: 2, Dry: 6, Broken: 1}, api.Wares{Wet: 3, Dry: 1, Broken: 5})
	carry(t, b, fire(api.OK, batch(0, 3)), draw(api.OK, 0), fire(api.OK, batch(1, 6)), draw(api.OK, 6))
	holds(t, b, api.Wares{Wet: 1, Fired: 7, Broken: 1}, api.Wares{Wet: 2, Broken: 7}, api.Wares{Wet: 3, Dry: 1, Broken: 5})
}

// P8.8: bricks are laid, break, and are replaced.
func TestLay(t *testing.T) {
	b := book(t, 99, 1, 1)
	carry(t, b, mould(0, 9, api.OK), dry(0, 9, 0, api.OK), fire(api.OK, batch(0, 8)), draw(api.OK, 1))
	carry(t, b,
		lay(0, 8, api.ErrState),
		lay(1, 1, api.ErrState),
		breaks(0, 1, api.ErrState),
		replace(0, 1, api.ErrState),
		lay(0, 4, api.OK),
		lay(0, 4, api.ErrState),
		breaks(0, 5, api.ErrState),
		replace(0, 1, api.ErrState),
		breaks(0, 3, api.OK),
	)
	holds(t, b, api.Wares{Dry: 1, Fired: 3, Laid: 1, Broken: 4, Missing: 3}, api.Wares{})
	carry(t, b,
		replace(0, 4, api.ErrState),
		lay(0, 1, api.OK),
		replace(0, 3, api.ErrState),
		replace(0, 1, api.OK),
		breaks(0, 4, api.ErrState),
		replace(0, 1, api.OK),
		replace(0, 1, api.ErrState),
	)
	holds(t, b, api.Wares{Dry: 1, Laid: 4, Broken: 4, Missing: 1}, api.Wares{})
	carry(t, b, breaks(0, 4, api.OK), breaks(0, 1, api.ErrState))
	holds(t, b, api.Wares{Dry: 1, Broken: 8, Missing: 5}, api.Wares{})
	carry(t, b, fire(api.OK, batch(0, 1)), replace(0, 1, api.ErrState), draw(api.OK, 0), replace(0, 2, api.ErrState), replace(0, 1, api.OK))
	holds(t, b, api.Wares{Laid: 1, Broken: 8, Missing: 4}, api.Wares{})
}

// More fired bricks than are missing are not all laid by Replace.
func TestReplaceMore(t *testing.T) {
	b := book(t, 99, 1)
	carry(t, b, mould(0, 9, api.OK), dry(0, 9, 0, api.OK), fire(api.OK, batch(0, 9)), draw(api.OK, 0), lay(0, 2, api.OK), breaks(0, 2, api.OK))
	carry(t, b, replace(0, 3, api.ErrState), replace(0, 8, api.ErrState), replace(0, 2, api.OK), replace(0, 1, api.ErrState), replace(0, 0, api.OK))
	holds(t, b, api.Wares{Fired: 5, Laid: 2, Broken: 2})
}

// A nil book has an error in all methods, ahead of all others.
func TestNilBook(t *testing.T) {
	var b *kiln.Book
	for _, kind := range []int{0, -1, 99} {
		for _, d := range []deed{mould(kind, 1, 0), dry(kind, -1, -1, 0), fire(0, batch(kind, 0)), fire(0), fire(0, make([]api.Batch, 21)...), draw(0, kind), draw(0), lay(kind, -1, 0), breaks(kind, 0, 0), replace(kind, 1, 0)} {
			if e := d.do(b); e != api.ErrNil {
				t.Error(d.name, e)
			}
		}
		if w, e := b.Count(kind); w != (api.Wares{}) || e != api.ErrNil {
			t.Error(kind, w, e)
		}
	}
}

// play is a book and its model, with which the same is done.
type play struct {
	*kiln.Book
	model *modelBook
}

// step does something with both, mostly something that can be done, and returns the errors of both.
func (p play) step(next func(n int) int) (what string, got, want api.Errno) {
	kind := next(len(p.model.space))
	some := func(most int) int { return max(0, next(most+2)-next(2)) }
	w := p.model.wares(kind)
	if next(25) == 0 {
		kind = []int{-1, len(p.model.space)}[next(2)]
	}
	wild := func(n int) int {
		if next(40) == 0 {
			return []int{-1, 1000000000, 1000000001, n + 1}[next(4)]
		}
		return n
	}
	switch next(8) {
	case 0, 1:
		n := next(9)
		if next(40) == 0 && w.Wet > 0 {
			n = []int{-1, 1000000000, 1000000001}[next(3)]
		}
		return told([]any{"mould", kind, n}), p.Mould(kind, n), p.model.mould(kind, n)
	case 2:
		n := wild(some(w.Wet))
		broken := wild(next(n%100 + 2)) // it may be one too many
		return told([]any{"dry", kind, n, broken}), p.Dry(kind, n, broken), p.model.dry(kind, n, broken)
	case 3:
		var l []api.Batch
		for k := range p.model.space {
			if next(2) == 0 {
				l = append(l, batch(k, wild(some(min(5, p.model.wares(k).Dry)))))
			}
		}
		if next(10) == 0 {
			l = append(l, batch(kind, 1))
		}
		return told([]any{"fire", l}), p.Fire(l), p.model.fire(l)
	case 4:
		var broken []int
		for _, b := range p.model.kiln {
			broken = append(broken, wild(next(b.N+1)))
		}
		if next(10) == 0 {
			broken = append(broken, 0)
		}
		return told([]any{"draw", broken}), p.Draw(broken), p.model.draw(broken)
	case 5:
		n := wild(some(w.Fired))
		return told([]any{"lay", kind, n}), p.Lay(kind, n), p.model.lay(kind, n)
	case 6:
		n := wild(some(w.Laid))
		return told([]any{"break", kind, n}), p.Break(kind, n), p.model.breaks(kind, n)
	}
	n := wild(some(min(w.Fired, w.Missing)))
	return told([]any{"replace", kind, n}), p.Replace(kind, n), p.model.replace(kind, n)
}

// P8.5 to P8.8, P8.15: whatever is done, a book has what a model with each brick by itself has; nothing is lost or becomes whole.
func TestBookByModel(t *testing.T) {
	next := pseudo()
	tried := map[api.Errno]int{}
	for range 300 {
		space := make([]int, 1+next(4))
		for i := range space {
			space[i] = 1 + next(3)
		}
		room := next(40)
		p := play{book(t, room, space...), newModelBook(space, room)}
		for range 120 {
			before := all(p.Book)
			what, got, want := p.step(next)
			if got != want {
				t.Fatal(what, before, got, want)
			}
			tried[got]++
			after := all(p.Book)
			for kind, w := range after {
				if w != p.model.wares(kind) {
					t.Fatal(what, kind, before, w, p.model.wares(kind))
				}
				moulded := w.Wet + w.Dry + w.Burning + w.Fired + w.Laid + w.Broken
				if moulded != len(p.model.bricks[kind]) || w.Broken < before[kind].Broken || w.Missing > w.Broken {
					t.Fatal("lost", what, kind, before, w)
				}
			}
		}
	}
	for _, e := range []api.Errno{api.ErrArg, api.ErrRange, api.ErrForm, api.ErrTwice, api.ErrNone, api.ErrFull, api.ErrState, api.OK} {
		if tried[e] < 20 {
			t.Error("only so many:", e, tried[e])
		}
	}
}

// R2, R4: books keep nothing of what they were given, and have nothing in common.
func TestBooksApart(t *testing.T) {
	space := []int{2, 3}
	b := book(t, 12, space...)
	space[0], space[1] = 1000, 1
	other := book(t, 12, 1, 1)
	carry(t, b, mould(0, 9, api.OK), dry(0, 9, 0, api.OK), mould(1, 9, api.OK), dry(1, 9, 0, api.OK), fire(api.ErrFull, batch(0, 5), batch(1, 1)))
	l := append(make([]api.Batch, 0, 9), batch(0, 3), batch(1, 2))
	if e := b.Fire(l); e != api.OK || !slices.Equal(l, batches(batch(0, 3), batch(1, 2))) || l[:3][2] != batch(0, 0) {
		t.Error(e, l[:3])
	}
	l[0], l[1] = batch(1, 9), batch(9, 9)
	broken := append(make([]int, 0, 9), 1, 2)
	if e := b.Draw(broken); e != api.OK || !slices.Equal(broken, []int{1, 2}) || broken[:3][2] != 0 {
		t.Error(e, broken)
	}
	broken[0] = 7
	holds(t, b, api.Wares{Dry: 6, Fired: 2, Broken: 1}, api.Wares{Dry: 7, Broken: 2})
	holds(t, other, api.Wares{}, api.Wares{})
}

// Example 3.
func TestExampleOfBook(t *testing.T) {
	b := book(t, 7, 1)
	carry(t, b, mould(0, 10, api.OK), dry(0, 8, 1, api.OK), fire(api.OK, batch(0, 7)), draw(api.OK, 2), lay(0, 5, api.OK))
	holds(t, b, api.Wares{Wet: 2, Laid: 5, Broken: 3})
}
