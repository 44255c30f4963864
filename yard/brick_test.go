package yard

import (
	"testing"

	"chiti/api"
)

// P12.5: how bricks are written. All kinds of bricks are what they are when they are reflected, too, so that no tiling has a reflected one.
func TestBrick(t *testing.T) {
	w := words{kinds: []string{"bent", "half"}}
	for _, c := range []struct {
		b    api.Laid
		text string
	}{
		{api.Laid{}, "bent:0:0:0"},
		{api.Laid{Kind: 1, Place: api.Place{Turns: 3, X: 1, Y: 2}}, "half:1:2:3"},
		{api.Laid{Place: api.Place{Mirror: true, Turns: 1, X: 15, Y: 10}}, "bent:15:10:1:r"},
	} {
		if got := w.brick(c.b); got != c.text {
			t.Error(got, c)
		}
	}
	if got := w.bricks([]api.Laid{{Kind: 1}, {Place: api.Place{Mirror: true}}}); got != "half:0:0:0 bent:0:0:0:r" {
		t.Error(got)
	}
}
