package grid

import (
	"math"
	"math/rand"
	"slices"
	"testing"

	"typebar/api"
	"typebar/glyph"
)

// tell tells a row: a blank as ., the second column of a wide cell as -.
func tell(l []Cell) string {
	s := ""
	for _, x := range l {
		switch {
		case x == Blank():
			s += "."
		case x == Cell{}:
			s += "-"
		default:
			s += x.Text
		}
	}
	return s
}

// Promise 27.1.
func TestNew(t *testing.T) {
	for _, x := range []struct {
		rows, cols int
		is         bool
	}{{1, 2, true}, {500, 1000, true}, {0, 5, false}, {501, 5, false}, {5, 1, false}, {5, 1001, false}, {-1, -1, false}, {math.MaxInt, math.MaxInt, false}, {math.MinInt, 80, false}} {
		g := New(x.rows, x.cols)
		if (g != nil) != x.is {
			t.Errorf("%d, %d", x.rows, x.cols)
		}
		rows, cols := g.Size()
		if x.is && (rows != x.rows || cols != x.cols) || !x.is && (rows != 0 || cols != 0) {
			t.Errorf("%d, %d: %d, %d", x.rows, x.cols, rows, cols)
		}
	}
	if b := Blank(); b.Text != " " || b.Width != 1 {
		t.Error(b)
	}
	g := New(2, 3)
	for r := -1; r < 3; r++ {
		for c := -1; c < 4; c++ {
			want := Cell{}
			if r >= 0 && r < 2 && c >= 0 && c < 3 {
				want = Blank()
			}
			if g.At(r, c) != want {
				t.Error(r, c, g.At(r, c))
			}
		}
		if is := r >= 0 && r < 2; len(g.Row(r)) != map[bool]int{true: 3}[is] {
			t.Error(r, g.Row(r))
		}
	}
}

// Promise 27.2: by examples.
func TestPut(t *testing.T) {
	type put struct {
		c, width int
		text     string
	}
	for _, x := range []struct {
		l    []put
		want string
	}{
		{[]put{{1, 2, "W"}, {2, 1, "x"}}, "..x."}, {[]put{{1, 2, "W"}, {1, 1, "x"}}, ".x.."}, {[]put{{1, 2, "W"}, {0, 2, "V"}}, "V-.."}, {[]put{{1, 2, "W"}, {2, 2, "V"}}, "..V-"}, {[]put{{0, 2, "W"}, {2, 2, "V"}, {1, 2, "U"}}, ".U-."}, {[]put{{2, 2, "W"}, {3, 1, "x"}}, "...x"}, {[]put{{1, 2, "W"}, {1, 2, "V"}}, ".V-."},
	} {
		g := New(2, 4)
		for _, p := range x.l {
			if !g.Put(1, p.c, glyph.Glyph{Text: p.text, Width: p.width}) {
				t.Error(p)
			}
		}
		if s := tell(g.Row(1)); s != x.want || tell(g.Row(0)) != "...." {
			t.Errorf("%v: %s", x.l, s)
		}
	}
	g := New(2, 4)
	for _, x := range [][3]int{{0, 4, 1}, {0, 3, 2}, {0, -1, 1}, {2, 0, 1}, {-1, 0, 1}, {0, 0, 0}, {0, 0, 3}, {0, 0, -1}, {0, math.MaxInt, 2}, {0, math.MinInt, 2}, {math.MaxInt, 0, 1}, {0, 0, math.MinInt}, {0, 0, math.MaxInt}} {
		if g.Put(x[0], x[1], glyph.Glyph{Text: "x", Width: x[2]}) || !Same(g, New(2, 4)) {
			t.Error(x)
		}
	}
}

// Promise 27.2: erasing.
func TestErase(t *testing.T) {
	for _, x := range []struct {
		c    int
		want string
	}{{0, "....."}, {1, "a...."}, {2, "a...."}, {3, "aW-.."}, {4, "aW-b."}, {5, "aW-b."}, {-1, "aW-b."}, {math.MaxInt, "aW-b."}, {math.MinInt, "aW-b."}} {
		g := New(2, 5)
		for r := range 2 {
			g.Put(r, 0, glyph.Glyph{Text: "a", Width: 1})
			g.Put(r, 1, glyph.Glyph{Text: "W", Width: 2})
			g.Put(r, 3, glyph.Glyph{Text: "b", Width: 1})
		}
		g.Erase(1, x.c)
		g.Erase(2, 0)
		g.Erase(-1, 0)
		if s := tell(g.Row(1)); s != x.want || tell(g.Row(0)) != "aW-b." {
			t.Errorf("from %d: %s", x.c, s)
		}
		g.Clear()
		if !Same(g, New(2, 5)) {
			t.Error("it is not clear")
		}
	}
}

// Promise 27.3, and 27.1's copies: what is done by chance.
func TestAny(t *testing.T) {
	chance := rand.New(rand.NewSource(27))
	for range 2000 {
		g := New(2, 6)
		for range 20 {
			r, c := chance.Intn(3), chance.Intn(8)-1
			was, kept := g.Copy(), g.Copy()
			if chance.Intn(6) == 0 {
				g.Erase(r, c)
			} else if ok := g.Put(r, c, glyph.Glyph{Text: string(rune('a' + chance.Intn(26))), Width: chance.Intn(4)}); !ok && !Same(g, was) {
				t.Fatal("what was refused changed something")
			}
			if !Same(was, kept) || Same(g, was) != slices.Equal(slices.Concat(g.Row(0), g.Row(1)), slices.Concat(was.Row(0), was.Row(1))) {
				t.Fatal("a copy was changed")
			}
			for r := range 2 {
				row := g.Row(r)
				for i, x := range row {
					if (x.Width == 0) != (i > 0 && row[i-1].Width == 2) || x.Width == 0 && x.Text != "" || x.Width == 2 && i == 5 {
						t.Fatal(row)
					}
				}
			}
		}
	}
}

// Promise 27.1: what is the same, memory of its own, nil grids.
func TestNil(t *testing.T) {
	var g *Grid
	rows, cols := g.Size()
	if rows != 0 || cols != 0 || g.At(0, 0) != (Cell{}) || len(g.Row(0)) != 0 || g.Put(0, 0, glyph.Glyph{Text: "a", Width: 1}) || g.Copy() != nil {
		t.Error("a nil grid has something")
	}
	g.Erase(0, 0)
	g.Clear()
	if !Same(nil, nil) || Same(nil, New(1, 2)) || Same(New(1, 2), nil) || Same(New(1, 4), New(2, 2)) || Same(New(1, 4), New(1, 5)) || Same(New(1, 4), New(2, 4)) || Same(New(2, 4), New(1, 4)) || !Same(New(2, 2), New(2, 2)) {
		t.Error("what is the same")
	}
	g = New(1, api.MinCols)
	g.Row(0)[0] = Cell{"x", 1}
	if !Same(g, New(1, 2)) {
		t.Error("a row shares memory with the grid")
	}
}
