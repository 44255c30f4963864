package yard_test

import (
	"testing"

	"chiti/yard"
)

// P12.8: weights and units of lines.
func TestScan(t *testing.T) {
	long, longer := repeated(300, "a", ""), repeated(301, "a", "")
	tell(t, yard.New(), `
		scan agnim Ile purohitam = glgglgll 12
		scan a = l 1
		scan A = g 2
		scan devaM naH = ggg 6
		scan devaM Rtvijam = ErrForm
		scan a1 = ErrForm
		scan tkt = ErrSound
		scan aHM = ErrSound
	`, "scan "+long+" = "+repeated(300, "l", "")+" 300", "scan "+longer+" = ErrLong", "scan "+repeated(301, "R", "")+" = ErrLong")
}

// P12.8: shares of cows.
func TestGifts(t *testing.T) {
	tell(t, yard.New(), `
		gifts 100 12,6,4,3 = 48,24,16,12
		gifts 10 1,1,1 = 4,3,3
		gifts 0 0,1 = 0,0
		gifts 7 5 = 7
		gifts 100 - = ErrArg
		gifts 100 0,0 = ErrArg
		gifts -1 - = ErrRange
		gifts 1 -1,2 = ErrArg
		gifts 1 1000001 = ErrArg
	`, "gifts -1 "+repeated(21, "1", ",")+" = ErrLong")
}

// P12.8: borrowed cows.
func TestBorrow(t *testing.T) {
	tell(t, yard.New(), `
		borrow 17 1,1,1 2,3,9 = 1 9,6,2
		borrow 0 - - = 0 -
		borrow 0 1 2 = 0 0
		borrow 1 - - = ErrNone
		borrow 17 1,1 2 = ErrForm
		borrow -1 1,1 2 = ErrForm
		borrow 17 - 2 = ErrForm
		borrow 17 2 1 = ErrArg
		borrow -1 2 1 = ErrArg
		borrow -1 1 2 = ErrRange
		borrow 18 1,1,1 2,3,9 = ErrNone
		borrow 3 3 4 = 1 3
	`, "borrow -1 "+repeated(21, "0", ",")+" "+repeated(21, "1", ",")+" = ErrLong")
}

// P12.8: there is at most one moon, and none at first.
func TestMoon(t *testing.T) {
	y := yard.New()
	tell(t, y, `
		falls 1 = ErrState
		falls -1 = ErrState
		moon 1 3 0 = ErrArg
		moon 1 1 1 = ErrArg
		moon 1 0 0 = ErrArg
		moon 5 2 0 = ErrArg
		falls 1 = ErrState
		moon 59 60 0 = ok
		moon 59 60 0 = ErrState
		moon 1 3 0 = ErrState
		falls -1 = ErrRange
		falls 1000001 = ErrRange
		falls 1000000 = 983334 once
		falls 0 = 0 once
		falls 58 = 58 once
		falls 59 = 58 never
		falls 60 = 59 once
	`)
	tell(t, yard.New(), `
		moon 3 2 1 = ok
		falls 0 = 1 once
		falls 1 = 2 twice
		falls 2 = 4 once
		falls 3 = 5 twice
	`)
	tell(t, yard.New(), "moon 2 1 0 = ok", "falls 0 = 0 twice", "falls 500000 = 1000000 twice")
	tell(t, yard.New(), "moon 1 2 0 = ok", "falls 0 = 0 once", "falls 1 = 0 never", "falls 2 = 1 once")
}
