package yard

import (
	"slices"
	"strconv"

	"chiti/api"
	"chiti/rite"
)

// What an act can be.
const (
	extra = "extra"
	must  = "must"
)

// service is a rite, and what has been done of it since it has begun.
type service struct {
	api.Rite
	hasBegun bool
	course   []api.Deed
}

func (y *Yard) rite(w words) (string, api.Errno) {
	return y.services.add(w.names[0], func(s *service) (string, api.Errno) {
		s.Last, s.Toil = w.integers[0], w.integers[1]
		return integers(len(s.Acts)), api.OK
	})
}

func (y *Yard) act(w words) (string, api.Errno) {
	return y.services.change(w.names[0], func(s *service) (string, api.Errno) {
		switch {
		case w.text != extra && w.text != must:
			return "", api.ErrForm
		case s.hasBegun:
			return "", api.ErrState
		case len(s.Acts) == api.MaxActs:
			return "", api.ErrFull
		}
		s.Acts = append(s.Acts, api.Act{
			Name:    w.names[1],
			Needs:   w.lists[0],
			Instead: w.lists[1],
			Atone:   w.integers[0],
			From:    w.integers[1],
			To:      w.integers[2],
			Extra:   w.text == extra,
		})
		return integers(len(s.Acts)), api.OK
	})
}

func (y *Yard) begin(w words) (string, api.Errno) {
	return y.services.change(w.names[0], func(s *service) (string, api.Errno) {
		if s.hasBegun {
			return "", api.ErrState
		}
		s.hasBegun = true
		return done, rite.Check(s.Rite)
	})
}

// serve does, or asks for, something of a rite that has begun.
func (y *Yard) serve(name string, do change[service]) (string, api.Errno) {
	return y.services.change(name, func(s *service) (string, api.Errno) {
		if !s.hasBegun {
			return "", api.ErrState
		}
		return do(s)
	})
}

func (y *Yard) do(w words) (string, api.Errno) {
	return y.serve(w.names[0], func(s *service) (string, api.Errno) { return s.do(w.integers[0], w.names[1]) })
}

func (y *Yard) perform(w words) (string, api.Errno) {
	return y.serve(w.names[0], func(s *service) (string, api.Errno) {
		day, _, e := y.fall(w.integers[0])
		if e != api.OK {
			return "", e
		}
		return s.do(day, w.names[1])
	})
}

func (y *Yard) open(w words) (string, api.Errno) {
	return y.serve(w.names[0], func(s *service) (string, api.Errno) {
		acts, e := rite.Open(s.Rite, s.course, w.integers[0])
		return listed(texts(s.act, acts...)), e
	})
}

func (y *Yard) repair(w words) (string, api.Errno) {
	return y.serve(w.names[0], func(s *service) (string, api.Errno) {
		deeds, e := rite.Repair(s.Rite, s.course, w.integers[0])
		return listed(texts(s.deed, deeds...)), e
	})
}

// do adds a deed to a rite that has begun.
func (s *service) do(day int, name string) (string, api.Errno) {
	act := slices.IndexFunc(s.Acts, func(a api.Act) bool { return a.Name == name })
	if act < 0 {
		return "", api.ErrNone
	}
	s.course = append(s.course, api.Deed{Day: day, Act: act})
	// If the course is not right, there is an error.
	isComplete, e := rite.Complete(s.Rite, s.course)
	if isComplete {
		return "complete", e
	}
	return done, e
}

func (s *service) act(number int) string { return s.Acts[number].Name }

func (s *service) deed(d api.Deed) string { return strconv.Itoa(d.Day) + ":" + s.act(d.Act) }
