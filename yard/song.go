package yard

import (
	"chiti/api"
	"chiti/song"
)

// falls are the words for how lunar days fall.
var falls = [...]string{api.FallsOnce: "once", api.FallsTwice: "twice", api.FallsNever: "never"}

func (*Yard) scan(w words) (string, api.Errno) {
	weights, e := song.Scan(w.text)
	if e != api.OK {
		return "", e
	}
	_, units, e := song.Units(w.text)
	return weights + space + integers(units), e
}

func (*Yard) gifts(w words) (string, api.Errno) {
	gifts, e := song.Gifts(w.integers[0], w.lists[0])
	return list(gifts), e
}

func (*Yard) borrow(w words) (string, api.Errno) {
	portions, e := paired(w.lists[0], w.lists[1], func(num, den int) api.Portion { return api.Portion{Num: num, Den: den} })
	if e != api.OK {
		return "", e
	}
	borrowed, gifts, e := song.Borrow(w.integers[0], portions)
	return integers(borrowed) + space + list(gifts), e
}

func (y *Yard) newMoon(w words) (string, api.Errno) {
	if y.moon != nil {
		return "", api.ErrState
	}
	m := api.Moon{Len: w.integers[0], Per: w.integers[1], Phase: w.integers[2]}
	if e := song.CheckMoon(m); e != api.OK {
		return "", e
	}
	y.moon = &m
	return done, api.OK
}

// fall returns the day on which a lunar day falls, and how.
func (y *Yard) fall(number int) (day int, how api.LunarFall, e api.Errno) {
	if y.moon == nil {
		return 0, 0, api.ErrState
	}
	return song.Falls(*y.moon, number)
}

func (y *Yard) falls(w words) (string, api.Errno) {
	day, how, e := y.fall(w.integers[0])
	return integers(day) + space + falls[how], e
}
