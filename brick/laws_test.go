package brick_test

import (
	"slices"
	"testing"

	"chiti/api"
	"chiti/brick"
)

// P5.8: turned four times, or reflected twice, a shape is what it was.
func TestTurnedBack(t *testing.T) {
	next := pseudo()
	for i := range 800 {
		p := api.Place{X: next(api.MaxGrid), Y: next(api.MaxGrid)}
		start, e := brick.Put(someShape(next, 1+i%16), p)
		if e != api.OK {
			continue
		}
		s := start
		for range 4 {
			s, _ = brick.Put(s, api.Place{Turns: 1})
		}
		if s, e := brick.Put(s, p); !same(s, start) || e != api.OK {
			t.Error("turned", start, p, s, e)
		}
		s, _ = brick.Put(start, api.Place{Mirror: true})
		if s, e := brick.Put(s, api.Place{Mirror: true, X: p.X, Y: p.Y}); !same(s, start) || e != api.OK {
			t.Error("reflected", start, p, s, e)
		}
		for turns := range 4 {
			// A place that reflects turns what is reflected.
			reflected, _ := brick.Put(start, api.Place{Mirror: true})
			first, _ := brick.Put(reflected, api.Place{Turns: turns})
			second, _ := brick.Put(start, api.Place{Mirror: true, Turns: turns})
			if !same(first, second) {
				t.Error("turned behind", start, turns)
			}
		}
	}
}

// P5.8: the number of Images divides 8, and all Images of an image are the same.
func TestImagesOfImages(t *testing.T) {
	next := pseudo()
	for i := range 400 {
		s := someShape(next, 1+i%5)
		l, e := brick.Images(s)
		if e != api.OK || len(l) == 0 || 8%len(l) != 0 {
			t.Error(s, l, e)
		}
		norm, _ := brick.Norm(s)
		if !slices.ContainsFunc(l, func(image []api.Quarter) bool { return same(image, norm) }) {
			t.Error("not among its own images", s)
		}
		for _, image := range l {
			again, e := brick.Images(image)
			is, f := brick.Same(image, s)
			if !same(again, l) || !is || e != api.OK || f != api.OK {
				t.Error(s, image, e, f)
			}
		}
	}
}

// P5.9: borders together have the edges of the whole border, and each joint twice; they have three edges a quarter, less two for each touching pair.
func TestEdgesCounted(t *testing.T) {
	next := pseudo()
	for i := range 800 {
		l := someShapes(next, 1+next(8), 1+i%16)
		var all []api.Quarter
		edges := 0
		for _, s := range l {
			border, e := brick.Border(s)
			if e != api.OK || len(border) != 3*len(s)-2*modelTouching(s) {
				t.Error(s, border, e)
			}
			edges += len(border)
			all = append(all, s...)
		}
		slices.SortFunc(all, modelCompare)
		border, e := brick.Border(all)
		joints, f := brick.Joints(l)
		if e != api.OK || f != api.OK || edges != len(border)+2*len(joints) {
			t.Error(l, edges, len(border), len(joints))
		}
	}
}

// P5.9: between the pieces of a shape there are no joints.
func TestPiecesApart(t *testing.T) {
	next := pseudo()
	for i := range 400 {
		s := someShape(next, 1+i%9)
		pieces, _ := brick.Pieces(s)
		if len(pieces) > api.MaxShapes {
			continue
		}
		if joints, e := brick.Joints(pieces); len(joints) != 0 || e != api.OK {
			t.Error(s, joints, e)
		}
		for _, piece := range pieces {
			if again, e := brick.Pieces(piece); !same(again, [][]api.Quarter{piece}) || e != api.OK {
				t.Error(piece, again, e)
			}
		}
	}
}

// P5.10: a shape at one of its Places is in the ground, no other one puts the same set, and an image has as many of them.
func TestPlacesInGround(t *testing.T) {
	next := pseudo()
	for i := range 300 {
		s, ground := some(next, next(9), next(9), 1+next(2), 1+next(2), 1+i%5), someShape(next, 1+i%12)
		l, e := brick.Places(s, ground)
		if e != api.OK {
			t.Error(s, ground, e)
		}
		sets := map[string]bool{}
		for _, p := range l {
			put, e := brick.Put(s, p)
			if e != api.OK || sets[told(put)] {
				t.Error(s, p, e)
			}
			sets[told(put)] = true
			for _, q := range put {
				if !slices.Contains(ground, q) {
					t.Error("not in the ground", s, p, q)
				}
			}
		}
		images, _ := brick.Images(s)
		for _, image := range images {
			if other, e := brick.Places(image, ground); len(other) != len(l) || e != api.OK {
				t.Error(s, image, len(l), len(other), e)
			}
		}
	}
}

// P5.11: what is written is read as the same shape, and what is read is what is written.
func TestTextsBack(t *testing.T) {
	next := pseudo()
	for i := range 2000 {
		s, _ := brick.Norm(someShape(next, 1+i%16))
		text, e := brick.Format(s)
		if back, f := brick.Parse(text); !same(back, s) || e != api.OK || f != api.OK {
			t.Error(s, text, back, e, f)
		}
	}
	letters := "000013579bdf/fff/"
	count := 0
	for i := range 40000 {
		text := ""
		for range 1 + next(3+i%20) {
			text += string(letters[next(len(letters))])
		}
		s, e := brick.Parse(text)
		if e != api.OK {
			continue
		}
		count++
		if back, f := brick.Format(s); back != text || f != api.OK {
			t.Error(text, s, back, f)
		}
	}
	if count < 1000 {
		t.Error("only so many texts:", count)
	}
}
