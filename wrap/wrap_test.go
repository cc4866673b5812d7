package wrap

import (
	"math"
	"math/rand"
	"slices"
	"testing"

	"typebar/glyph"
	"typebar/grid"
)

func glyphs(widths ...int) []glyph.Glyph {
	var out []glyph.Glyph
	for i, w := range widths {
		out = append(out, glyph.Glyph{Text: string(rune('a' + i)), Width: w})
	}
	return out
}

// Promise 28.1.
func TestPlace(t *testing.T) {
	for _, x := range []struct {
		widths []int
		cols   int
		want   []Spot
	}{
		{[]int{1, 2, 2, 1}, 4, []Spot{{0, 0}, {0, 1}, {1, 0}, {1, 2}, {1, 3}}}, {nil, 2, []Spot{{0, 0}}}, {nil, 1, nil}, {[]int{1}, 1, nil}, {[]int{1}, 0, nil}, {[]int{1}, math.MinInt, nil}, {[]int{1, 1}, 2, []Spot{{0, 0}, {0, 1}, {1, 0}}}, {[]int{2, 2}, 2, []Spot{{0, 0}, {1, 0}, {2, 0}}}, {[]int{1, 2}, 2, []Spot{{0, 0}, {1, 0}, {2, 0}}}, {[]int{1, 2, 1}, 3, []Spot{{0, 0}, {0, 1}, {1, 0}, {1, 1}}},
		{[]int{1, 1, 2}, 3, []Spot{{0, 0}, {0, 1}, {1, 0}, {1, 2}}}, {[]int{1}, math.MaxInt, []Spot{{0, 0}, {0, 1}}},
	} {
		if l := Place(glyphs(x.widths...), x.cols); !slices.Equal(l, x.want) {
			t.Errorf("%v in %d: %v", x.widths, x.cols, l)
		}
	}
}

// Promises 28.1, 28.2 and 28.4: glyphs by chance.
func TestAny(t *testing.T) {
	chance := rand.New(rand.NewSource(28))
	for range 5000 {
		var widths []int
		for range chance.Intn(20) {
			widths = append(widths, 1+chance.Intn(2))
		}
		l := glyphs(widths...)
		cols, rows, top := 2+chance.Intn(5), 1+chance.Intn(4), chance.Intn(6)-2
		spots := Place(l, cols)
		row, col := 0, 0
		want := grid.New(rows, cols)
		for i, x := range l {
			if i > 0 && col+x.Width > cols {
				row, col = row+1, 0
			}
			if spots[i] != (Spot{row, col}) {
				t.Fatalf("%v in %d: %v", widths, cols, spots)
			}
			if row >= top && row < top+rows {
				want.Put(row-top, col, x)
			}
			col += x.Width
			if col < cols-1 && i+1 < len(l) && spots[i+1].Row > row {
				t.Fatalf("%v in %d: a row lacks more than a column", widths, cols)
			}
		}
		if col == cols {
			row, col = row+1, 0
		}
		if len(spots) != len(l)+1 || spots[len(l)] != (Spot{row, col}) || !grid.Same(Lay(l, rows, cols, top), want) {
			t.Fatalf("%v in %d: %v", widths, cols, spots)
		}
	}
	if Lay(nil, 0, 5, 0) != nil || Lay(nil, 5, 1, 0) != nil || Lay(nil, 1, 1001, 0) != nil || !grid.Same(Lay(nil, 1, 2, math.MinInt), grid.New(1, 2)) || !grid.Same(Lay(glyphs(1), 1, 2, math.MaxInt), grid.New(1, 2)) || !grid.Same(Lay(glyphs(1), 1, 2, math.MinInt), grid.New(1, 2)) {
		t.Error("edges")
	}
	// Widths that no glyph has: no promise but that it ends.
	Place(glyphs(0, -5, 7, math.MaxInt, math.MinInt, 3), 4)
	Lay(glyphs(0, -5, 7, math.MaxInt, math.MinInt, 3), 2, 4, 0)
}

// Promises 28.3 and 28.4.
func TestTop(t *testing.T) {
	for _, x := range [][4]int{{5, 3, 0, 0}, {5, 3, 1, 0}, {5, 3, 2, 1}, {5, 3, 4, 2}, {2, 5, 1, 0}, {9, 4, 5, 3}, {1, 1, 0, 0}, {3, 1, 2, 2}} {
		if top := Top(x[0], x[1], x[2]); top != x[3] {
			t.Error(x, top)
		}
	}
	for all := 1; all < 12; all++ {
		for rows := 1; rows < 12; rows++ {
			for row := range all {
				if top := Top(all, rows, row); top > row || row-top >= rows || top < 0 || top > max(all-rows, 0) {
					t.Error(all, rows, row, top)
				}
			}
		}
	}
}
