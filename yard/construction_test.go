package yard_test

import (
	"fmt"
	"strings"
	"testing"

	"chiti/yard"
)

// P12.2: a construction begins with two pegs at different points.
func TestConstruct(t *testing.T) {
	y := yard.New()
	tell(t, y, `
		construct a 0 1/2 r2 -1 = 2
		peg a 0 = 0 1/2
		peg a 1 = r2 -1
		construct a 1 1 1 1 = ErrTwice
		construct b 1 1 1 1 = ErrTwice
		peg b 0 = ErrNone
		construct b 1 2 1 3 = 2
		peg b 1 = 1 3
		peg a 1 = r2 -1
	`)
}

// P12.2: steps put pegs, draw lines or draw circles; with an error nothing is added.
func TestStep(t *testing.T) {
	y := play(t, "construct a 0 0 1 0")
	tell(t, y, `
		step b line 0 0 = ErrNone
		step b x = ErrNone
		step a x = ErrForm
		step a line 0 = ErrForm
		step a line 0 1 2 = ErrForm
		step a line 0 1000 = ErrForm
		step a join 0 1 2 = ErrForm
		step a mark 0 9 1/0 = ErrForm
		step a line 0 2 = ErrNone
		step a line 0 0 = ErrTwice
		step a cross 0 0 = ErrNone
		step a line 0 1 = 2
		step a gnomon 0 0 = 2
		step a gnomon 0 1 = 2
		step a cross 0 2 = ErrNone
		step a circle 0 0 1 = 2
		step a cut 1 0 1 = 3
		peg a 2 = 0 1
		step a mark 0 1 1/3 = 4
		step a along 0 1 2 3 = 5
		peg a 3 = 1/3 0
		peg a 4 = r10/3 0
		step a cross 2 0 = ErrNone
		step a cross 1 0 = 6
		peg a 5 = 0 0
		step a line 0 5 = ErrTwice
		step a mark 4 1 7/99999 = ErrOver
		step a circle 2 1 4 = 6
		step a cut 0 1 0 = ErrNone
		peg a 6 = ErrNone
		step a mark 0 1 -1/1 = 7
		peg a 6 = -1 0
	`)
}

// P12.2: a peg whose place is no number is not put.
func TestStepSurd(t *testing.T) {
	y := play(t, `
		construct a 0 0 1 0
		step a line 0 1
		step a gnomon 0 0
		step a circle 0 0 1
		step a cut 1 0 1
		step a along 0 1 1 2
	`)
	tell(t, y, `
		step a mark 1 3 2/1 = 5
		peg a 4 = -1+2r2 0
		step a along 0 1 2 4 = ErrSurd
		peg a 5 = ErrNone
		step a along 0 1 1 4 = 6
		peg a 5 = -2+2r2 0
	`)
}

// P12.2: ErrLong behind 40 steps, also where the step has another error.
func TestStepLong(t *testing.T) {
	y := play(t, "construct a 0 0 1 0\nconstruct b 0 0 1 0")
	for i := range 40 {
		tell(t, y, fmt.Sprintf("step a mark 0 1 %d/1 = %d", i, i+3))
	}
	tell(t, y, `
		step a mark 0 1 7/1 = ErrLong
		step a line 0 1 = ErrLong
		step a line 99 0 = ErrLong
		step a line 0 0 = ErrLong
		step a line 0 = ErrForm
		peg a 41 = 39 0
		peg a 42 = ErrNone
		step b line 0 1 = 2
	`)
}

// P12.2: points of pegs.
func TestPeg(t *testing.T) {
	y := play(t, "construct a 0 0 1 0\nstep a mark 0 1 2/3")
	tell(t, y, `
		peg b 0 = ErrNone
		peg a -1 = ErrNone
		peg a 3 = ErrNone
		peg a 999999999 = ErrNone
		peg a -999999999 = ErrNone
		peg a 2 = 2/3 0
		peg a 0 = 0 0
	`)
}

// P12.2: areas of polygons; what is no peg comes ahead of the errors of areas.
func TestCorners(t *testing.T) {
	y := play(t, `
		construct a 0 0 3 0
		step a line 0 1
		step a gnomon 0 0
		step a circle 0 0 1
		step a cut 1 0 1
		construct great 100000 -100000 1 1
	`)
	twenty, twentyOne := repeated(10, "0,1", ","), repeated(10, "0,1", ",")+",2"
	tell(t, y, `
		corners b - = ErrNone
		corners b 9 = ErrNone
		corners a - = 0
		corners a 0 = 0
		corners a 0,1 = 0
		corners a 0,1,2 = 9/2
		corners a 2,1,0 = 9/2
		corners a 0,1,2,0,1,2 = 9
		corners a 0,1,3 = ErrNone
		corners a -1,1,2 = ErrNone
		corners great 0,1 = ErrOver
		corners great 0,1,2 = ErrNone
	`, "corners a "+twenty+" = 0", "corners a "+twentyOne+" = ErrLong", "corners a "+twentyOne+",3 = ErrNone")
}

// P12.2: claims of three kinds.
func TestHolds(t *testing.T) {
	y := play(t, `
		construct a 0 0 1 0
		step a line 0 1
		step a gnomon 0 0
		step a circle 0 0 1
		step a cut 1 0 1
		step a mark 0 1 1/2
		construct great 100000 0 1 0
	`)
	tell(t, y, `
		holds a equal 0,1,0,2 = yes
		holds a equal 0,1,1,2 = no
		holds a equal 0,3,3,1 = yes
		holds a right 1,0,2 = yes
		holds a right 0,1,2 = no
		holds a right 2,0,3 = yes
		holds a line 0,1,3 = yes
		holds a line 0,1,2 = no
		holds a line 1,1,2 = yes
		holds b round 0 = ErrNone
		holds b line 0,1,2 = ErrNone
		holds a round 9 = ErrForm
		holds a Equal 0,1,0,2 = ErrForm
		holds a area 0,1,2 = ErrForm
		holds a near 0,1,2 = ErrForm
		holds a same 0,1,2 = ErrForm
		holds a 1 0,1,2 = ErrForm
		holds a equal 0,1,9 = ErrForm
		holds a right 0,1,0,2 = ErrForm
		holds a line - = ErrForm
		holds a line 0,1,4 = ErrNone
		holds a right 0,-1,2 = ErrNone
		holds great equal 0,1,0,1 = ErrOver
		holds great equal 0,1,0,2 = ErrNone
		holds great round 0,1,0,1 = ErrForm
	`)
}

// P12.3: values and corrections of old fractions.
func TestOldFractions(t *testing.T) {
	many := "1" + strings.Repeat("+1/2*2*2*2*2*2", 8)
	tell(t, yard.New(), `
		old 1+1/3+1/3*4-1/3*4*34 = 577/408
		old 0 = 0
		old 1000-1/2 = 1999/2
		old 1001 = ErrForm
		old 1+1/1 = ErrForm
		old 1 = 1
		old r2 = ErrForm
		old 0+1/317*316 = ErrOver
		old 0+1/1000*100 = 1/100000
		chain 1+1/3 2 0 = 1+1/3
		chain 1+1/3 2 1 = 1+1/3+1/3*4
		chain 1+1/3 2 2 = 1+1/3+1/3*4-1/3*4*34
		chain 1+1/3 2 8 = 1+1/3+1/3*4-1/3*4*34
		chain 1+1/3 3 2 = 1+1/3
		chain 2 5 1 = 2+1/4
		chain 1+1/3 2 9 = ErrRange
		chain 1+1/3 2 -1 = ErrRange
		chain 1+1/3 0 2 = ErrRange
		chain 1+1/3 1001 2 = ErrRange
		chain 1+1/1 0 9 = ErrForm
		chain 0+1/317*316 2 2 = 0+1/317*316
	`, "old "+many+" = 9/8", "old "+repeated(302, "1", "")+" = ErrLong", "chain "+repeated(301, "1", "")+" 0 9 = ErrLong", "old "+repeated(300, "1", "")+" = ErrForm")
}

// P12.3: how far numbers are off roots, and circles off squares.
func TestErrors(t *testing.T) {
	tell(t, yard.New(), `
		off 577/408 2 1000000 = 2 3
		off 7/5 2 1000 = -15 -14
		off r2 2 7 = 0 0
		off 1000 1 999999999 = 998999999001 998999999001
		off -1000 1 999999999 = -1000999998999 -1000999998999
		off 0 0 0 = ErrRange
		off 1 1001 1 = ErrRange
		off 1 2 0 = ErrRange
		off 1 2 -1 = ErrRange
		off r3+r5+r7+r11 2 0 = ErrFull
		off 1/99999 1/2 1 = ErrForm
		off 100000 1 1 = 99999 99999
		off -100000 1 1 = ErrOver
		circle (2+r2)/3 223/71 22/7 10000 = 170 177
		circle 1 4 4 3 = 0 0
		circle 2 1 4 100 = 0 300
		circle 2 4 1 100 = ErrArg
		circle 0 4 1 100 = ErrArg
		circle 2 0 1 100 = ErrArg
		circle 0 1 4 100 = ErrRange
		circle -1 1 4 0 = ErrRange
		circle 2 1 4 0 = ErrRange
		circle 100000 1 4 0 = ErrOver
	`)
}
