package yard_test

import (
	"testing"

	"chiti/yard"
)

// fire is the rite of the chapter's example.
const fire = `
	rite fire 5 1
	act fire kindle - - 2 0 2 must
	act fire offer 0 - -1 1 3 must
	act fire amend - - -1 0 5 extra
`

// P12.7: acts are added as they are told, valid or not, until the rite begins.
func TestAct(t *testing.T) {
	y := yard.New()
	tell(t, y, `
		act a b - - -1 0 0 more = ErrNone
		act a b - - -1 0 0 must = ErrNone
		rite a 99 -1 = 0
		rite a 5 1 = ErrTwice
		act a b 7,3 9 -9 5 -1 more = ErrForm
		act a b - - -1 0 0 Must = ErrForm
		act a b - - -1 0 0 extras = ErrForm
		act a b 7,3 9 -9 5 -1 must = 1
		act a b - - 0 0 0 extra = 2
		begin a = ErrArg
		act a c - - 0 0 0 extra = 3
		rite c 5 1 = 0
		act c b - - -1 0 0 must = 1
	`)
	for _, want := range []string{"2", "3", "4", "5", "6", "7", "8", "9", "10", "ErrFull", "ErrFull"} {
		tell(t, y, "act c c - - -1 0 0 must = "+want)
	}
	tell(t, y, "act c c - - -1 0 0 none = ErrForm", "begin c = ErrArg", "act c c - - -1 0 0 must = ErrFull")
}

// P12.7: a rite begins once, and only if it is valid.
func TestBegin(t *testing.T) {
	y := yard.New()
	tell(t, y, `
		begin a = ErrNone
		rite a 5 1 = 0
		begin a = ErrArg
		open a 0 = ErrState
		act a b - - -1 0 0 must = 1
		begin a = ok
		begin a = ErrState
		act a c - - -1 0 0 must = ErrState
		act a c - - -1 0 0 more = ErrForm
		rite b 31 1 = 0
		act b b - - -1 0 0 must = 1
		begin b = ErrArg
		act b c - - -1 0 0 must = 2
		rite c 30 4 = 0
		act c b - - -1 0 0 must = 1
		act c b - - -1 0 0 must = 2
		begin c = ErrArg
		rite d 3 5 = 0
		act d b - - -1 0 0 must = 1
		begin d = ErrArg
		rite e 3 4 = 0
		act e b - 1 -1 0 0 must = 1
		begin e = ErrArg
		act e c 0 - -1 3 3 extra = 2
		begin e = ok
	`)
	full := play(t, "rite a 5 1")
	for _, name := range []string{"a", "b", "c", "d", "e", "f", "g", "h", "i", "j"} {
		ask(t, full, "act a "+name+" - - -1 0 0 must")
	}
	tell(t, full, "begin a = ok", "act a a - - -1 0 0 must = ErrState", "open a 0 = a,b,c,d,e,f,g,h,i,j")
}

// P12.7: each number and list of an act is where it belongs.
func TestWholeAct(t *testing.T) {
	y := play(t, `
		rite a 9 2
		act a one - 2,3 4 2 3 must
		act a two 0,2 - -1 1 9 must
		act a three - - -1 3 4 extra
		act a four - - -1 2 6 extra
		act a five - - -1 0 9 extra
		begin a
	`)
	tell(t, y, `
		open a 0 = -
		open a 2 = one,four
		open a 3 = one,three,four
		open a 4 = three,four,five
		open a 5 = four,five
		open a 9 = five
		do a 2 two = ErrState
		do a 4 three = ok
		open a 4 = two
		do a 4 one = ErrState
		do a 4 two = complete
		open a 4 = -
		open a 3 = ErrRange
	`)
}

// P12.7: deeds keep the rules; with an error nothing is done.
func TestDo(t *testing.T) {
	y := play(t, fire)
	tell(t, y, `
		do water 0 kindle = ErrNone
		do fire 0 kindle = ErrState
		do fire 0 wash = ErrState
		begin fire = ok
		do fire 0 wash = ErrNone
		do fire -1 wash = ErrNone
		do fire -1 kindle = ErrState
		do fire 3 kindle = ErrState
		do fire 999999999 kindle = ErrState
		do fire 1 offer = ErrState
		do fire 0 amend = ErrState
		do fire 2 kindle = ok
		do fire 2 kindle = ErrState
		do fire 2 offer = ErrState
		do fire 1 offer = ErrState
		do fire 4 offer = ErrState
		do fire 3 offer = complete
		do fire 3 offer = ErrState
		do fire 4 amend = ErrState
		repair fire 3 = -
	`)
}

// P12.7: behind a deed after which nothing is left to be settled, the course still completes the rite.
func TestStillComplete(t *testing.T) {
	y := play(t, `
		rite a 9 2
		act a one - 1 -1 0 9 must
		act a two - 2 -1 0 9 extra
		act a three - - -1 0 9 extra
		begin a
	`)
	tell(t, y, `
		do a 0 one = complete
		open a 0 = three
		do a 0 three = complete
		open a 0 = -
	`)
}

// P12.7: a lunar day tells the day of a deed.
func TestPerform(t *testing.T) {
	y := play(t, fire)
	tell(t, y, `
		perform water 0 kindle = ErrNone
		perform fire -1 wash = ErrState
		moon 2 1 0 = ok
		perform fire 0 kindle = ErrState
		begin fire = ok
		perform fire -1 wash = ErrRange
		perform fire 1000001 wash = ErrRange
		perform fire 1000000 wash = ErrNone
		perform fire 1 wash = ErrNone
		perform fire 2 kindle = ErrState
		perform fire 1000000 kindle = ErrState
		perform fire 1 kindle = ok
		open fire 3 = offer
		perform fire 1 offer = ErrState
		do fire 3 offer = complete
	`)
	y = play(t, fire+"begin fire")
	tell(t, y, `
		perform fire -1 wash = ErrState
		perform fire 0 kindle = ErrState
		moon 59 60 0 = ok
		perform fire 1 kindle = ok
		perform fire 60 offer = ErrState
		perform fire 2 offer = complete
	`)
}

// P12.7: what is open.
func TestOpen(t *testing.T) {
	y := play(t, fire)
	tell(t, y, `
		open water -1 = ErrNone
		open fire -1 = ErrState
		begin fire = ok
		open fire -1 = ErrRange
		open fire 6 = ErrRange
		open fire 0 = kindle
		open fire 2 = kindle
		open fire 3 = amend
		open fire 5 = amend
		do fire 2 kindle = ok
		open fire 1 = ErrRange
		open fire 2 = -
		open fire 3 = offer
		open fire 4 = -
	`)
	y = play(t, `
		rite a 5 2
		act a one - - -1 0 5 must
		act a two - - -1 0 5 must
		act a three - - -1 1 5 must
		begin a
	`)
	tell(t, y, "open a 0 = one,two", "open a 1 = one,two,three", "do a 1 two = ok", "open a 1 = one,three")
}

// P12.7: what still completes a rite.
func TestRepair(t *testing.T) {
	y := play(t, fire)
	tell(t, y, `
		repair water -1 = ErrNone
		repair fire -1 = ErrState
		begin fire = ok
		repair fire -1 = ErrRange
		repair fire 6 = ErrRange
		repair fire 0 = 0:kindle,1:offer
		repair fire 2 = 2:kindle,3:offer
		repair fire 3 = ErrNone
		do fire 1 kindle = ok
		repair fire 0 = ErrRange
		repair fire 1 = 2:offer
		repair fire 3 = 3:offer
		repair fire 4 = ErrNone
		do fire 2 offer = complete
		repair fire 2 = -
		repair fire 5 = -
	`)
	y = play(t, `
		rite late 30 1
		act late wait - - -1 10 30 must
		act late go 0 - -1 20 30 must
		begin late
	`)
	tell(t, y, "repair late 0 = 10:wait,20:go", "repair late 29 = 29:wait,30:go", "repair late 30 = ErrNone")
}

// P12.7: rites do not disturb each other, nor what is done in one the acts of another one.
func TestRites(t *testing.T) {
	y := play(t, fire+`
		rite water 5 2
		act water kindle - - -1 0 2 must
		begin fire
		act water offer 0 - -1 0 2 must
		begin water
		do fire 0 kindle
	`)
	tell(t, y, `
		open water 0 = kindle
		do water 1 kindle = ok
		do water 1 offer = complete
		open fire 1 = offer
		repair fire 0 = 1:offer
	`)
}
