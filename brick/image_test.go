package brick_test

import (
	"slices"
	"testing"

	"chiti/api"
	"chiti/brick"
)

// P5.2: Images are the different shapes that are made by turning and reflecting, in ascending order.
func TestImages(t *testing.T) {
	for text, want := range map[string][]string{
		"3": {"3", "9", "6", "c"}, "f": {"f"}, "1": {"1", "2", "4", "8"}, "5": {"5", "a"}, "7": {"7", "b", "d", "e"}, "ff": {"ff", "f/f"},
		"6c": {"39", "6/3", "c/9", "6c"}, "6c/39": {"6c/39"}, "f0/ff": {"f0/ff", "0f/ff", "ff/f0", "ff/0f"}, "ff/ff": {"ff/ff"},
		"f1": {"f1", "f4", "2/f", "8/f", "1f", "f/2", "4f", "f/8"}, "36": {"36", "9/3", "9c", "3/9", "63", "c/6", "c9", "6/c"}, "0f0/fff/0f0": {"0f0/fff/0f0"},
	} {
		for _, at := range [][2]int{{0, 0}, {4, 11}} {
			l, e := brick.Images(shapeAt(t, text, at[0], at[1]))
			if e != api.OK || !slices.Equal(texts(l), want) {
				t.Error(text, at, texts(l), e)
			}
			if !slices.IsSortedFunc(l, modelCompareShapes) {
				t.Error("order", text, l)
			}
		}
	}
}

// P5.2: a shape that is the beginning of another one is the smaller one, and no image is the beginning of another one; the order is by Y, then by X, then by Side.
func TestImagesLikeModel(t *testing.T) {
	next := pseudo()
	counts := map[int]int{}
	for i := range 1500 {
		s := someShape(next, []int{1, 2, 3, 5, 16}[i%5])
		l, e := brick.Images(s)
		if !same(l, modelImages(s)) || e != api.OK {
			t.Error(s, l, e)
		}
		counts[len(l)]++
	}
	for _, n := range []int{1, 2, 4, 8} {
		if counts[n] < 10 {
			t.Error("only so many shapes have so many images:", counts[n], n)
		}
	}
}

// P5.2: shapes are the same if they have an image in common, wherever they are.
func TestSame(t *testing.T) {
	for _, c := range []struct {
		a, b string
		want bool
	}{
		{"f", "f", true}, {"3", "c", true}, {"3", "9", true}, {"3", "5", false}, {"5", "a", true}, {"ff", "f/f", true}, {"f", "ff", false}, {"ff", "f", false},
		{"6c", "c/9", true}, {"6c", "36", false}, {"36", "9/3", true}, {"f1", "f/8", true}, {"f1", "4f", true}, {"f1", "f2", false}, {"f0/ff", "ff/0f", true}, {"f0/ff", "ff/ff", false},
		{"f0f", "fff", false}, {"f0f", "ff0f", false}, {"f00/fff", "00f/fff", true}, {"ff0/0ff", "0ff/ff0", true}, {"f0/0f", "0f/f0", true},
	} {
		for _, at := range [][2]int{{0, 0}, {9, 2}} {
			a, b := shapeAt(t, c.a, at[0], at[1]), shapeAt(t, c.b, at[1], at[0])
			if is, e := brick.Same(a, b); is != c.want || e != api.OK {
				t.Error(c, is, e)
			}
			if is, e := brick.Same(b, a); is != c.want || e != api.OK {
				t.Error(c, is, e)
			}
		}
	}
}

func TestSameLikeModel(t *testing.T) {
	next := pseudo()
	count := 0
	for i := range 3000 {
		a, b := someShape(next, 1+i%3), someShape(next, 1+i%3)
		if i%5 == 0 {
			b, _ = modelPut(a, api.Place{Mirror: next(2) == 0, Turns: next(4), X: next(9), Y: next(9)})
		}
		want := modelSame(a, b)
		if is, e := brick.Same(a, b); is != want || e != api.OK {
			t.Error(a, b, is, e)
		}
		if want {
			count++
		}
	}
	if count < 600 || count > 2400 {
		t.Error("only so many were the same:", count)
	}
}

// P5.3: pieces are connected by edges, not by corners, and are in ascending order.
func TestPieces(t *testing.T) {
	for _, c := range []struct {
		s    string
		want [][]api.Quarter
	}{
		{"f", [][]api.Quarter{{quarter(0, 0, 0), quarter(0, 0, 1), quarter(0, 0, 2), quarter(0, 0, 3)}}},
		{"5", [][]api.Quarter{{quarter(0, 0, 0)}, {quarter(0, 0, 2)}}},
		{"a", [][]api.Quarter{{quarter(0, 0, 1)}, {quarter(0, 0, 3)}}},
		{"3", [][]api.Quarter{{quarter(0, 0, 0), quarter(0, 0, 1)}}},
		{"6", [][]api.Quarter{{quarter(0, 0, 1), quarter(0, 0, 2)}}},
		{"c", [][]api.Quarter{{quarter(0, 0, 2), quarter(0, 0, 3)}}},
		{"9", [][]api.Quarter{{quarter(0, 0, 0), quarter(0, 0, 3)}}},
		{"28", [][]api.Quarter{{quarter(0, 0, 1), quarter(1, 0, 3)}}},
		{"82", [][]api.Quarter{{quarter(0, 0, 3)}, {quarter(1, 0, 1)}}},
		{"21", [][]api.Quarter{{quarter(0, 0, 1)}, {quarter(1, 0, 0)}}},
		{"4/1", [][]api.Quarter{{quarter(0, 0, 0), quarter(0, 1, 2)}}},
		{"1/4", [][]api.Quarter{{quarter(0, 0, 2)}, {quarter(0, 1, 0)}}},
		{"0c/30", [][]api.Quarter{{quarter(0, 0, 0), quarter(0, 0, 1)}, {quarter(1, 1, 2), quarter(1, 1, 3)}}},
		{"a5", [][]api.Quarter{{quarter(0, 0, 1)}, {quarter(0, 0, 3)}, {quarter(1, 0, 0)}, {quarter(1, 0, 2)}}},
	} {
		if l, e := brick.Pieces(shape(t, c.s)); !same(l, c.want) || e != api.OK {
			t.Error(c.s, l, e)
		}
	}
	for text, want := range map[string]int{"f0/0f": 2, "ff/0f": 1, "fff/f0f/fff": 1, "3c/c3": 2, "c3/3c": 2, "6c/39": 1, "f0f0f": 3, "ffff/f00f/f0ff/f000/ffff": 1, "f0f/f0f/fff": 1, "f0f/0f0/f0f": 5} {
		for _, at := range [][2]int{{0, 0}, {11, 11}} {
			l, e := brick.Pieces(shapeAt(t, text, at[0], at[1]))
			if len(l) != want || e != api.OK {
				t.Error(text, l, e)
			}
		}
	}
}

// P5.3: quarters at opposite margins of the grid do not touch.
func TestPiecesAtMargins(t *testing.T) {
	for _, s := range [][]api.Quarter{
		{quarter(0, 7, 3), quarter(15, 7, 1)}, {quarter(7, 0, 2), quarter(7, 15, 0)}, {quarter(15, 7, 1), quarter(0, 8, 3)}, {quarter(7, 0, 2), quarter(8, 15, 0)},
	} {
		l, e := brick.Pieces(s)
		if want := [][]api.Quarter{s[:1], s[1:]}; !same(l, want) || e != api.OK {
			t.Error(s, l, e)
		}
	}
}

func TestPiecesLikeModel(t *testing.T) {
	next := pseudo()
	counts := map[int]int{}
	for i := range 1500 {
		s := someShape(next, []int{2, 3, 5, 10, 16}[i%5])
		want := modelPieces(s)
		if l, e := brick.Pieces(s); !same(l, want) || e != api.OK {
			t.Error(s, l, e)
		}
		counts[min(len(want), 5)]++
	}
	for n := range 5 {
		if counts[n+1] < 50 {
			t.Error("only so many shapes have so many pieces:", counts[n+1], n+1)
		}
	}
}
