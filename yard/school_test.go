package yard_test

import (
	"fmt"
	"testing"

	"chiti/yard"
)

// P12.9: schools and their rules; with an error nothing is added.
func TestRule(t *testing.T) {
	y := yard.New()
	tell(t, y, `
		rule a 0 0 0 - = ErrNone
		school a 2,5 1 = ErrArg
		school a - 1 = ErrArg
		school a 2 0 = ErrArg
		school a 2 5 = ErrArg
		school a 1,1,1,1,1,1 1 = ErrArg
		school a 2,3 2 = 0
		school a - 0 = ErrTwice
		rule a 2 0 0 - = ErrForm
		rule a 0 0 - 1 = ErrForm
		rule a 0 0 0,1 1 = ErrForm
		rule a 2 0 0 1 = ErrArg
		rule a -1 0 0 1 = ErrArg
		rule a 0 1000 0 1 = ErrArg
		rule a 0 -1 0 1 = ErrArg
		rule a 0 0 2 1 = ErrArg
		rule a 0 0 0 4 = ErrArg
		rule a 0 0 0,0,0,0,0,0 1,1,1,1,1,1 = ErrArg
		decide a 0,0 0 = ErrNone
		rule a 1 999 0,1 3,7 = 1
		rule a 1 5 1,0 4,2 = 2
		rule a 0 6 0,0,0,0,0 1,3,1,3,1 = 3
		decide a 0,0 1 = 999 0
		decide a 1,2 1 = 5 1
		decide a 1,1 1 = 999 0
		decide a 0,2 0 = 6 2
		decide a 1,2 0 = ErrNone
	`)
	for i := 4; i <= 12; i++ {
		tell(t, y, fmt.Sprintf("rule a 0 0 - - = %d", i))
	}
	tell(t, y, "rule a 0 0 - - = ErrArg", "rule a 0 0 - 1 = ErrForm", "school b 2,3 2 = 0", "rule b 0 0 - - = 1")
}

// P12.9: what a school says in a case, and by which rules.
func TestDecide(t *testing.T) {
	y := play(t, `
		school a 2,3 2
		rule a 0 200 - -
		rule a 0 999 0 2
		rule a 0 395 1 5
		rule a 0 999 0,1 2,7
		school b 4 1
	`)
	tell(t, y, `
		decide a 0,1 0 = 200 0
		decide a 1,1 0 = 999 1,3
		decide a 0,0 0 = 395 2
		decide a 1,0 0 = ErrClash
		decide a 0,0 1 = ErrNone
		decide a 0,0 2 = ErrRange
		decide a 0,0 -1 = ErrRange
		decide a 0 2 = ErrRange
		decide a 0 0 = ErrForm
		decide a - 0 = ErrForm
		decide a 2,0 0 = ErrForm
		decide a 0,-1 0 = ErrForm
		decide a 0,0,0 0 = ErrForm
		decide b 3 0 = ErrNone
		decide c 0 0 = ErrNone
		decide c 9 9 = ErrNone
	`)
}

// P12.9: cases that tell schools apart.
func TestDiffer(t *testing.T) {
	y := play(t, `
		school a 2,3 2
		rule a 0 200 - -
		rule a 0 999 0 2
		school b 2,3 1
		rule b 0 200 - -
		school c 3,2 2
		school d 2,3 1
		rule d 0 200 0 1
		rule d 0 200 0 2
	`)
	tell(t, y, `
		differ a b 0 = 1,0
		differ b a 0 = 1,0
		differ a a 0 = ErrNone
		differ b d 0 = ErrNone
		differ a d 0 = 1,0
		differ a b 1 = ErrRange
		differ b a 1 = ErrRange
		differ a b -1 = ErrRange
		differ a c 0 = ErrForm
		differ a c 2 = ErrRange
		differ a e 9 = ErrNone
		differ e a 9 = ErrNone
		differ e f 9 = ErrNone
		differ a a 1 = ErrNone
	`)
}
