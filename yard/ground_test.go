package yard_test

import (
	"fmt"
	"testing"

	"chiti/yard"
)

// P12.4: steps of grounds; with an error nothing is added.
func TestPart(t *testing.T) {
	y := yard.New()
	tell(t, y, `
		part a x = ErrNone
		part a add 0 0 1 1 = ErrNone
		ground a = 0
		ground a = ErrTwice
		part a x = ErrForm
		part a add 0 0 1 = ErrForm
		part a add 0 0 1 1 1 = ErrForm
		part a add 0 0 1 01 = ErrForm
		part a add 16 0 1 1 = ErrForm
		part a brick great = ErrForm
		part a brick huge 0 0 0 = ErrForm
		part a cut 0 0 1 1 = ErrNone
		part a add 15 0 2 1 = ErrRange
		part a add 0 0 2 1 = 8
		part a add 1 0 1 1 = ErrTwice
		part a mirror 0 = ErrRange
		part a mirror 3 = 16
		part a corner 0 1 2 ne = 24
		part a clip 1 2 1 ne = 22
		part a brick half 5 5 1 = 24
		part a reflected half 7 7 0 = 26
		part a turn 2 = ErrRange
		part a cut 0 0 4 1 = 10
		part a add 0 0 4 1 = 26
	`)
}

// P12.4: what is cut off again leaves a ground without quarters, which has no shape.
func TestEmptyGround(t *testing.T) {
	y := yard.New()
	for _, script := range []string{"ground a = 0", "part a mirror 0 = 0", "part a add 3 3 2 1 = 8\npart a cut 3 3 2 1 = 0"} {
		tell(t, y, script, `
			print a = ErrForm
			measure a = ErrForm
			size a 0 -1 -1 = ErrForm
			lay a x 1 = ErrForm
			tilings a oblong 1,1 = ErrForm
			layers a oblong 1 9 = ErrForm
			print b = ErrNone
			measure b = ErrNone
			size b 0 -1 -1 = ErrNone
			lay b x 1 = ErrNone
			tilings b x 1 = ErrNone
			layers b x 1 9 = ErrNone
		`)
	}
	tell(t, y, `
		part a brick quarter 9 9 2 = 1
		print a = 4
	`)
}

// P12.4: ErrLong behind 60 steps, and above 400 quarters.
func TestPartLong(t *testing.T) {
	y := play(t, "ground a\nground b")
	for i := range 30 {
		tell(t, y, fmt.Sprintf("part a add %d 0 1 1 = 4\npart a cut %d 0 1 1 = 0", i%16, i%16))
	}
	tell(t, y, `
		part a add 0 0 1 1 = ErrLong
		part a cut 0 0 1 1 = ErrLong
		part a add 0 0 1 = ErrForm
		print a = ErrForm
		part b add 0 0 10 10 = 400
		part b add 11 11 1 1 = ErrLong
		part b cut 0 0 1 1 = 396
		part b add 11 11 1 1 = 400
		part b brick quarter 13 13 0 = ErrLong
	`)
}

// P12.4: shapes, as they are put into the corner.
func TestPrint(t *testing.T) {
	y := play(t, `
		ground a
		part a add 3 5 3 1
		part a add 4 6 1 1
		ground b
		part b corner 2 2 2 ne
		ground c
		part c brick triangle 9 9 0
		ground d
		part d add 0 0 16 1
	`)
	tell(t, y, `
		print a = 0f0/fff
		print b = 3f/03
		print c = 6c
		print d = ffffffffffffffff
		part a brick half 15 15 1 = 18
	`)
}

// P12.4: areas, borders and centers.
func TestMeasure(t *testing.T) {
	y := play(t, `
		ground a
		part a brick half 0 0 0
		ground b
		part b add 0 0 3 3
		part b cut 1 1 1 1
		ground c
		part c brick quarter 3 4 3
		ground d
		part d brick half 3 3 0
	`)
	tell(t, y, `
		measure a = 1/2 2+r2 2/3 2/3
		measure b = 8 16 3/2 3/2
		measure c = 1/4 1+r2 23/6 9/2
		measure d = 1/2 2+r2 11/3 11/3
		print e = ErrNone
	`)
}

// P12.4: sides of cells for the area of a year.
func TestSize(t *testing.T) {
	y := play(t, `
		ground a
		part a add 4 4 2 2
		ground b
		part b brick quarter 0 0 0
	`)
	tell(t, y, `
		size a 15/2 1 0 = r30/4
		size a 15/2 1 1 = r34/4
		size a 4 0 1000 = 1
		size a 3+2r2 0 7 = (1+r2)/2
		size b 1 0 0 = 2
		size a 15/2 1 1001 = ErrRange
		size a 15/2 1 -1 = ErrRange
		size a 0 1 0 = ErrRange
		size a -1 1 5 = ErrRange
		size a 1 -1 0 = ErrRange
		size a 99999 2 1 = ErrOver
		size a 1/99999 1/99998 1 = ErrOver
		size a 1+r2 0 0 = ErrSurd
		size a r2 0 0 = ErrSurd
		size b 99999 0 0 = ErrOver
		size c 0 1 0 = ErrNone
	`)
}

// P12.5: the first tiling, how many there are, and plans.
func TestLayers(t *testing.T) {
	y := play(t, `
		ground great
		part great add 4 4 2 2
		ground bar
		part bar add 0 0 3 1
		ground bent
		part bent brick bent 2 3 1
		part bent brick triangle 7 7 2
	`)
	tell(t, y, `
		lay great oblong 2 = oblong:4:4:0 oblong:4:5:0
		lay great oblong,half 1,4 = oblong:4:4:0 half:4:5:0 half:4:5:2 half:5:5:0 half:5:5:2
		lay great half,oblong 4,1 = half:4:4:0 half:4:4:2 half:5:4:0 half:5:4:2 oblong:4:5:0
		lay great great,square 1,0 = great:4:4:0
		lay great oblong,oblong 1,1 = oblong:4:4:0 oblong:4:5:0
		lay bent triangle,bent 1,1 = bent:2:3:1 triangle:7:7:2
		lay bar oblong,square 1,1 = oblong:0:0:0 square:2:0:0
		tilings great oblong 2 = 2 1 5
		tilings bar square,oblong 1,1 = 2 1 5
		tilings bar square,oblong 3,1 = 0 0 0
		tilings great square 4 = 1 1 5
		layers great oblong 2 1 = oblong:4:4:0 oblong:4:5:0
		layers great oblong 2 2 = oblong:4:4:0 oblong:4:5:0 / oblong:4:4:1 oblong:5:4:1
		layers great oblong 2 5 = oblong:4:4:0 oblong:4:5:0 / oblong:4:4:1 oblong:5:4:1 / oblong:4:4:0 oblong:4:5:0 / oblong:4:4:1 oblong:5:4:1 / oblong:4:4:0 oblong:4:5:0
		layers great great 1 3 = great:4:4:0 / great:4:4:0 / great:4:4:0
		layers great square 4 2 = ErrNone
		layers bar oblong,square 1,1 3 = oblong:0:0:0 square:2:0:0 / square:0:0:0 oblong:1:0:0 / oblong:0:0:0 square:2:0:0
	`)
}

// P12.5: errors of the ground come first, then kinds that are none, then those of the functions.
func TestTasks(t *testing.T) {
	y := play(t, `
		ground a
		part a add 0 0 2 2
		ground wide
		part wide add 0 0 5 4
		ground empty
	`)
	nine, eight := repeated(9, "square", ","), repeated(8, "square", ",")
	for _, command := range []string{"lay", "tilings", "layers"} {
		number := ""
		if command == "layers" {
			number = " 1"
		}
		for _, c := range []struct{ words, want string }{
			{"none brick 2", "ErrNone"},
			{"empty brick 2", "ErrForm"},
			{"empty oblong 2,2", "ErrForm"},
			{"a brick 2,2", "ErrNone"},
			{"a oblong,brick 2", "ErrNone"},
			{"wide brick 2", "ErrNone"},
			{"a oblong 2,2", "ErrArg"},
			{"a oblong -", "ErrArg"},
			{"a oblong -1", "ErrArg"},
			{"a oblong,square 3,-2", "ErrArg"},
			{"a oblong 17", "ErrArg"},
			{"a " + nine + " " + repeated(9, "0", ","), "ErrArg"},
			{"wide square 16", "ErrArg"},
		} {
			tell(t, y, command+" "+c.words+number+" = "+c.want)
		}
	}
	tell(t, y, `
		lay a oblong 3 = ErrNone
		lay a bent 1 = ErrNone
		layers a oblong 3 1 = ErrNone
		layers a oblong 2 0 = ErrRange
		layers a oblong 2 6 = ErrRange
		layers a oblong 3 6 = ErrRange
		layers a oblong 2,2 6 = ErrArg
		layers a brick 2 6 = ErrNone
	`, "lay a "+eight+" 0,0,0,0,0,0,0,4 = square:0:0:0 square:1:0:0 square:0:1:0 square:1:1:0")
}

// P12.5: a tree that is too great is refused, and so are plans of too many tilings.
func TestGreatTree(t *testing.T) {
	y := play(t, `
		ground a
		part a add 0 0 4 4
		ground b
		part b add 0 0 4 2
	`)
	tell(t, y, `
		lay a oblong,square,half 4,6,4 = ErrFull
		tilings a oblong,square,half 4,6,4 = ErrFull
		layers a oblong,square,half 4,6,4 1 = ErrFull
		lay b half,square 8,4 = half:0:0:0 half:0:0:2 half:1:0:0 half:1:0:2 half:2:0:0 half:2:0:2 half:3:0:0 half:3:0:2 square:0:1:0 square:1:1:0 square:2:1:0 square:3:1:0
		tilings b half,square 8,4 = 1120 298 4221
		layers b half,square 8,4 1 = ErrFull
	`)
}
