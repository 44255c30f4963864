package yard_test

import (
	"strings"
	"testing"

	"chiti/yard"
)

// P12.6: there is at most one book, and none at first.
func TestWares(t *testing.T) {
	y := yard.New()
	tell(t, y, `
		mould 0 1 = ErrState
		dry 0 1 2 = ErrState
		laid 0 1 = ErrState
		broke 0 1 = ErrState
		replace 0 1 = ErrState
		fire - - = ErrState
		fire 1,2 3 = ErrState
		draw - = ErrState
		count 0 = ErrState
		need 1 1 - = ErrForm
		need 7 - - = 7
		wares - 1 = ErrArg
		wares 0 1 = ErrArg
		wares 1,1001 1 = ErrArg
		wares 1 -1 = ErrArg
		count 0 = ErrState
		wares 1,3 20 = ok
		wares 1,3 20 = ErrState
		wares - 1 = ErrState
		count 0 = 0 0 0 0 0 0 0
		count 1 = 0 0 0 0 0 0 0
		count 2 = ErrNone
		count -1 = ErrNone
	`)
	if got := lineOf(yard.New(), "wares "+repeated(21, "1", ",")+" 1"); got != answer("ErrArg") {
		t.Error(got)
	}
}

// P12.6: bricks are moulded, dried, fired, drawn, laid, broken and replaced; with an error nothing has changed.
func TestBook(t *testing.T) {
	y := play(t, "wares 1,3 20")
	tell(t, y, `
		mould 2 1 = ErrNone
		mould -1 -1 = ErrNone
		mould 0 -1 = ErrRange
		mould 0 999999999 = ok
		mould 0 2 = ErrFull
		mould 0 1 = ok
		mould 1 12 = ok
		count 0 = 1000000000 0 0 0 0 0 0
		count 1 = 12 0 0 0 0 0 0
		dry 2 1 1 = ErrNone
		dry 1 -1 0 = ErrRange
		dry 1 13 14 = ErrArg
		dry 1 13 13 = ErrState
		dry 1 11 2 = ok
		dry 0 7 0 = ok
		count 1 = 1 9 0 0 0 2 0
		fire 1,0 3 = ErrForm
		fire - 1 = ErrForm
		fire - - = ErrArg
		fire 1,2 3,1 = ErrNone
		fire 1,1 3,1 = ErrTwice
		fire 0,1 8,0 = ErrState
		fire 1,0 0,1 = ErrArg
		fire 1,0 5,6 = ErrFull
		count 1 = 1 9 0 0 0 2 0
		draw - = ErrState
		fire 1,0 4,7 = ok
		count 1 = 1 5 4 0 0 2 0
		count 0 = 999999993 0 7 0 0 0 0
		fire 1 1 = ErrState
		fire - - = ErrState
		draw 0 = ErrForm
		draw - = ErrForm
		draw 5,0 = ErrArg
		draw 0,-1 = ErrArg
		draw 1,7 = ok
		draw 0,0 = ErrState
		count 1 = 1 5 0 3 0 3 0
		count 0 = 999999993 0 0 0 0 7 0
		laid 2 0 = ErrNone
		laid 1 -1 = ErrRange
		laid 1 4 = ErrState
		laid 1 2 = ok
		count 1 = 1 5 0 1 2 3 0
		broke 2 0 = ErrNone
		broke 1 -1 = ErrRange
		broke 1 3 = ErrState
		broke 1 2 = ok
		count 1 = 1 5 0 1 0 5 2
		replace 2 0 = ErrNone
		replace 1 -1 = ErrRange
		replace 1 2 = ErrState
		replace 1 1 = ok
		replace 1 1 = ErrState
		count 1 = 1 5 0 0 1 5 1
		fire 1 5 = ok
		draw 0 = ok
		replace 1 2 = ErrState
		replace 1 1 = ok
		replace 1 0 = ok
		count 1 = 1 0 0 4 2 5 0
	`, "fire "+repeated(21, "0", ",")+" "+repeated(21, "1", ",")+" = ErrLong", "fire "+repeated(20, "0", ",")+" "+repeated(20, "1", ",")+" = ErrState")
}

// P12.6: how many bricks are needed.
func TestNeed(t *testing.T) {
	eleven := repeated(11, "0", ",")
	tell(t, yard.New(), `
		need 81 500,500 1000,1000 = 98
		need 81 500,500 1000 = ErrForm
		need -1 500,500 1000 = ErrForm
		need 81 1000,500 500,1000 = ErrArg
		need 81 - - = 81
		need 0 10000 10000 = 0
		need 1 10000 10000 = ErrNone
		need -1 - - = ErrRange
		need 999999999 0 10 = ErrNone
	`, "need -1 "+eleven+" "+eleven+" = ErrLong")
}

// P12.6: the bricks of the first tiling are laid.
func TestUse(t *testing.T) {
	y := play(t, `
		ground a
		part a add 0 0 2 2
		wares 1,1,1 100
		mould 0 20
		mould 1 20
		dry 0 20 0
		dry 1 20 0
		fire 0,1 5,3
		draw 0,0
	`)
	tell(t, y, `
		use a oblong,half 1,4 0,1 = ErrState
		use a oblong,half 1,4 1,0 = oblong:0:0:0 half:0:1:0 half:0:1:2 half:1:1:0 half:1:1:2
		count 0 = 0 15 0 1 4 0 0
		count 1 = 0 17 0 2 1 0 0
		use a oblong,square 1,2 1,1 = ErrState
		use a oblong,square 1,2 0,1 = oblong:0:0:0 square:0:1:0 square:1:1:0
		count 0 = 0 15 0 0 5 0 0
		count 1 = 0 17 0 0 3 0 0
		use a great 1 1 = ErrState
		use a great,square 1,0 2,1 = ErrState
		use a square,great 0,1 2,1 = ErrState
		use a great,square 1,0 1,2 = ErrState
		fire 0 1 = ok
		use a great 1 0 = ErrState
		draw 0 = ok
		use a square,great 0,1 2,0 = great:0:0:0
		count 0 = 0 14 0 0 6 0 0
		count 2 = 0 0 0 0 0 0 0
	`)
}

// P12.6: kinds of bricks that belong to the same kind of the book are counted together.
func TestUseTogether(t *testing.T) {
	script := `
		ground a
		part a add 0 0 2 2
		wares 1 100
		mould 0 20
		dry 0 20 0
		fire 0 4
		draw 0
	`
	y := play(t, script)
	tell(t, y, `
		use a oblong,half 1,4 0,0 = ErrState
		use a oblong,oblong,half 0,1,4 0,0,0 = ErrState
		count 0 = 0 16 0 4 0 0 0
		fire 0 1 = ok
		draw 0 = ok
		use a half,oblong 4,1 0,0 = half:0:0:0 half:0:0:2 half:1:0:0 half:1:0:2 oblong:0:1:0
		count 0 = 0 15 0 0 5 0 0
	`)
	y = play(t, script)
	tell(t, y, `
		use a oblong,oblong 1,1 0,0 = oblong:0:0:0 oblong:0:1:0
		use a oblong,oblong 1,1 0,0 = oblong:0:0:0 oblong:0:1:0
		use a oblong,oblong 1,1 0,0 = ErrState
		count 0 = 0 16 0 0 4 0 0
	`)
}

// P12.6: the errors of use in their order.
func TestUseErrors(t *testing.T) {
	y := yard.New()
	tell(t, y, "use a brick 2 1,2 = ErrState", "wares 1 100 = ok", "use a brick 2 1,2 = ErrNone", "ground a = 0")
	tell(t, y, `
		use a brick 2 1,2 = ErrForm
		part a add 0 0 2 2 = 16
		use a brick 2 1,2 = ErrNone
		use a oblong 2,2 1,2 = ErrArg
		use a oblong 3 1,2 = ErrNone
		use a oblong 2 1,2 = ErrForm
		use a oblong 2 - = ErrForm
		use a oblong,square 1,2 1 = ErrForm
		use a oblong,square 1,2 0,1 = ErrNone
		use a oblong,square 1,2 1,0 = ErrNone
		use a oblong,square 2,0 0,-1 = ErrNone
		use a oblong 2 0 = ErrState
		count 0 = 0 0 0 0 0 0 0
	`)
	if got := lineOf(y, "use a "+strings.Repeat("square,", 15)+"square 4"+strings.Repeat(",0", 15)+" 0"); got != answer("ErrArg") {
		t.Error(got)
	}
}
