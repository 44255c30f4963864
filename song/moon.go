package song

import (
	"sort"

	"chiti/api"
)

const (
	inMonth   = 30 // lunar days
	inHalf    = inMonth / 2
	mostAhead = 1000 // the greatest difference of two lunar days between which Odd looks
)

// CheckMoon returns the error of a moon.
func CheckMoon(m api.Moon) api.Errno {
	// What is at least the half of a number is at least the half rounded up.
	if !isWithin(m.Per, 1, api.MaxMoon) || !isWithin(m.Len, (m.Per+1)/2, 2*m.Per) || !isWithin(m.Phase, 0, m.Per-1) {
		return api.ErrArg
	}
	return api.OK
}

// At returns the lunar day that is current at the sunrise of a day, and its number.
func At(m api.Moon, day int) (d api.LunarDay, number int, e api.Errno) {
	if e := checkNumbers(m, day); e != api.OK {
		return api.LunarDay{}, 0, e
	}
	passed := day*m.Per - m.Phase
	if passed < 0 {
		return api.LunarDay{}, 0, api.ErrNone
	}
	number = passed / m.Len
	return lunarDay(number), number, api.OK
}

// Falls returns the day on which an act for a lunar day falls, and how it falls.
func Falls(m api.Moon, number int) (day int, how api.LunarFall, e api.Errno) {
	if e := checkNumbers(m, number); e != api.OK {
		return 0, 0, e
	}
	day, how = fall(m, number)
	return day, how, api.OK
}

// Next returns the first day, from some day on, on which an act for such lunar days falls.
func Next(m api.Moon, from int, dark bool, number int) (int, api.Errno) {
	if e := checkNumbers(m, from); e != api.OK {
		return 0, e
	}
	if !isWithin(number, 1, inHalf) {
		return 0, api.ErrRange
	}
	first := number - 1
	if dark {
		first += inHalf
	}
	dayIn := func(month int) int {
		day, _ := fall(m, month*inMonth+first)
		return day
	}
	months := (api.MaxLunarDay-first)/inMonth + 1
	month := sort.Search(months, func(month int) bool { return dayIn(month) >= from })
	if month == months {
		return 0, api.ErrNone
	}
	return dayIn(month), api.OK
}

// Odd returns which lunar days fall on no sunrise, and which on two.
func Odd(m api.Moon, from, to int) (never, twice []int, e api.Errno) {
	if e := checkNumbers(m, from, to); e != api.OK {
		return nil, nil, e
	}
	if !isWithin(to-from, 0, mostAhead) {
		return nil, nil, api.ErrRange
	}
	for number := from; number <= to; number++ {
		switch _, how := fall(m, number); how {
		case api.FallsNever:
			never = append(never, number)
		case api.FallsTwice:
			twice = append(twice, number)
		}
	}
	return never, twice, api.OK
}

// checkNumbers returns the error of a moon, or of the numbers of days, or of lunar days.
func checkNumbers(m api.Moon, numbers ...int) api.Errno {
	if e := CheckMoon(m); e != api.OK {
		return e
	}
	for _, number := range numbers {
		if !isWithin(number, 0, api.MaxLunarDay) {
			return api.ErrRange
		}
	}
	return api.OK
}

func lunarDay(number int) api.LunarDay {
	return api.LunarDay{Month: number / inMonth, Dark: number%inMonth >= inHalf, Number: number%inHalf + 1}
}

// fall returns the day on which an act for a lunar day falls, and how it falls.
func fall(m api.Moon, number int) (day int, how api.LunarFall) {
	day = sunrise(m, number)
	switch sunrise(m, number+1) - day {
	case 0:
		// It begins between this sunrise and the one before.
		return day - 1, api.FallsNever
	case 1:
		return day, api.FallsOnce
	}
	return day, api.FallsTwice
}

// sunrise returns the day of the first sunrise at which a lunar day has begun.
func sunrise(m api.Moon, number int) int { return (number*m.Len + m.Phase + m.Per - 1) / m.Per }
