package yard_test

import (
	"testing"

	"chiti/yard"
)

// The examples of chapter 12, in their order, in one yard.
func TestExamples(t *testing.T) {
	y := yard.New()
	tell(t, y, `
		construct yard 0 0 1 0 = 2
		step yard circle 0 0 1 = 2
		step yard circle 1 0 1 = 2
		step yard join 0 1 0 = 3
		peg yard 2 = 1/2 r3/2
		corners yard 0,1,2 = r3/4
		holds yard equal 0,1,1,2 = yes
	`, `
		chain 1+1/3 2 2 = 1+1/3+1/3*4-1/3*4*34
		off 577/408 2 1000000 = 2 3
	`, `
		ground great = 0
		part great add 4 4 2 2 = 16
		print great = ff/ff
		measure great = 4 8 5 5
		tilings great oblong 2 = 2 1 5
		lay great oblong 2 = oblong:4:4:0 oblong:4:5:0
		layers great oblong 2 2 = oblong:4:4:0 oblong:4:5:0 / oblong:4:4:1 oblong:5:4:1
		size great 15/2 1 0 = r30/4
	`, `
		wares 1,3 20 = ok
		mould 1 5 = ok
		dry 1 4 1 = ok
		fire 1 3 = ok
		draw 0 = ok
		use great oblong 2 1 = oblong:4:4:0 oblong:4:5:0
		count 1 = 1 0 0 1 2 1 0
	`, `
		rite fire 5 1 = 0
		act fire kindle - - 2 0 2 must = 1
		act fire offer 0 - -1 1 3 must = 2
		act fire amend - - -1 0 5 extra = 3
		begin fire = ok
		open fire 0 = kindle
		repair fire 0 = 0:kindle,1:offer
		moon 1 1 0 = ok
		perform fire 1 kindle = ok
		do fire 1 offer = ErrState
		do fire 2 offer = complete
	`, `
		scan agnim Ile purohitam = glgglgll 12
		gifts 100 12,6,4,3 = 48,24,16,12
		borrow 17 1,1,1 2,3,9 = 1 9,6,2
		falls 7 = 7 once
	`, `
		school old 2,3 1 = 0
		rule old 0 200 - - = 1
		rule old 0 999 0 2 = 2
		decide old 1,1 0 = 999 1
		school new 2,3 1 = 0
		rule new 0 200 - - = 1
		differ old new 0 = 1,0
	`)
}
