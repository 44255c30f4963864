package yard

import (
	"chiti/api"
	"chiti/cord"
)

func (*Yard) old(w words) (string, api.Errno) {
	o, e := cord.Parse(w.text)
	if e != api.OK {
		return "", e
	}
	value, e := cord.Value(o)
	return numbers(value), e
}

func (*Yard) chain(w words) (string, api.Errno) {
	o, e := cord.Parse(w.text)
	if e != api.OK {
		return "", e
	}
	o, e = cord.Chain(o, w.integers[0], w.integers[1])
	if e != api.OK {
		return "", e
	}
	return cord.Format(o)
}

func (*Yard) off(w words) (string, api.Errno) {
	low, high, e := cord.Off(w.numbers[0], w.integers[0], w.integers[1])
	return integers(low, high), e
}

func (*Yard) circle(w words) (string, api.Errno) {
	pi := api.Between{Low: w.numbers[1], High: w.numbers[2]}
	low, high, e := cord.Circling(w.numbers[0], pi, w.integers[0])
	return integers(low, high), e
}
