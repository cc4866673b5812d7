package pan

import (
	"math"
	"math/rand"
	"testing"

	"typebar/api"
	"typebar/glyph"
	"typebar/grid"
	"typebar/seg"
	"typebar/ucd"
)

// tell tells cells: a blank as ., the second column of a wide one as -.
func tell(l []grid.Cell) string {
	s := ""
	for _, x := range l {
		switch {
		case x == grid.Blank():
			s += "."
		case x == grid.Cell{}:
			s += "-"
		default:
			s += x.Text
		}
	}
	return s
}

// Promises 48.1 and 48.2: the examples, and others.
func TestRow(t *testing.T) {
	x := ucd.Build(api.Rows())
	for _, want := range []struct {
		s        string
		at, cols int
		row      string
		col      int
	}{
		{"abcdef", 0, 5, "abcd>", 0}, {"abcdef", 6, 5, "<ef..", 3}, {"abcd", 4, 5, "abcd.", 4}, {"abcd", 0, 5, "abcd.", 0}, {"abcde", 0, 5, "abcd>", 0}, {"abcde", 5, 5, "<de..", 3}, {"abcdef", 3, 5, "abcd>", 3}, {"abcdef", 4, 5, "<cde>", 3}, {"abcdef", 5, 5, "<def.", 3}, {"", 0, 4, "....", 0}, {"", 9, 4, "....", 0}, {"abcdef", -9, 5, "abcd>", 0}, {"abcdef", 99, 5, "<ef..", 3},
		{"\u4E00\u4E01\u4E02", 0, 5, "\u4E00-\u4E01->", 0}, {"\u4E00\u4E01\u4E02", 1, 5, "\u4E00-\u4E01->", 2}, {"\u4E00\u4E01\u4E02", 2, 5, "<\u4E02-..", 1}, {"\u4E00\u4E01\u4E02", 3, 5, "<\u4E02-..", 3}, {"\u4E00\u4E01\u4E02", 0, 6, "\u4E00-\u4E01-.>", 0}, {"\u4E00\u4E01", 0, 4, "\u4E00-.>", 0}, {"\u4E00\u4E01", 1, 4, "<\u4E01-.", 1}, {"\u4E00\u4E01", 2, 4, "<...", 1}, {"\x01\x02\x03", 1, 5, "^A^B>", 2}, {"e\u0301abcd", 1, 5, "e\u0301abc>", 1}, {"\u4E00abc", 1, 4, "\u4E00-a>", 2}, {"\u4E00abc", 3, 4, "<bc.", 2},
	} {
		row, col, ok := Row(x, []rune(want.s), want.at, want.cols)
		if tell(row) != want.row || col != want.col || !ok {
			t.Errorf("%q at %d in %d: %s %d %v", want.s, want.at, want.cols, tell(row), col, ok)
		}
	}
	for _, cols := range []int{3, 0, -1, math.MinInt, 1001, math.MaxInt} {
		if row, col, ok := Row(x, []rune("abcdef"), 6, cols); row != nil || col != 0 || ok {
			t.Error(cols, tell(row), col, ok)
		}
	}
	if row, _, ok := Row(x, []rune("a"), 0, 1000); len(row) != 1000 || !ok {
		t.Error(len(row), ok)
	}
}

func glyphs(widths []int) []glyph.Glyph {
	var out []glyph.Glyph
	for i, w := range widths {
		out = append(out, glyph.Glyph{Text: string(rune('a' + i)), Width: w})
	}
	return out
}

// plain chooses as the promise says it, summing up anew each time.
func plain(widths []int, at, cols int) Shown {
	sum := func(from, to int) int {
		n := 0
		for _, w := range widths[from:to] {
			n += w
		}
		return n
	}
	n := len(widths)
	cursor := append(widths[:n:n], 1)[at]
	if sum(0, n)+1 <= cols {
		return Shown{0, n, false, false, sum(0, at)}
	}
	var x Shown
	room := cols
	if sum(0, at)+cursor > cols-1 {
		x.Ahead = true
		for sum(x.From, at)+cursor > cols-2 {
			x.From++
		}
		room = cols - 1
		x.Col = 1
	}
	x.Col += sum(x.From, at)
	if sum(x.From, n)+1 <= room {
		x.To = n
		return x
	}
	x.Behind = true
	for to := x.From; to <= n; to++ {
		if sum(x.From, to) <= room-1 {
			x.To = to
		}
	}
	return x
}

// Promises 48.1 and 48.3: glyphs by chance.
func TestAny(t *testing.T) {
	chance := rand.New(rand.NewSource(48))
	for range 20000 {
		widths := make([]int, chance.Intn(12))
		for i := range widths {
			widths[i] = 1 + chance.Intn(2)
		}
		at, cols := chance.Intn(len(widths)+1), MinCols+chance.Intn(12)
		x, ok := Choose(glyphs(widths), at, cols)
		if want := plain(widths, at, cols); !ok || x != want {
			t.Fatalf("%v at %d in %d: %v, not %v", widths, at, cols, x, want)
		}
		end := x.Col + 1
		if at < len(widths) {
			end = x.Col + widths[at]
		}
		if x.Behind {
			end++
		}
		if at < x.From || at > x.To || at == x.To && at < len(widths) || x.Col < 0 || end > cols {
			t.Fatalf("%v at %d in %d: %v", widths, at, cols, x)
		}
	}
	for _, y := range [][2]int{{-1, 9}, {4, 9}, {0, 3}, {0, math.MinInt}, {math.MinInt, 9}, {math.MaxInt, 9}} {
		if x, ok := Choose(glyphs([]int{1, 1, 1}), y[0], y[1]); ok || x != (Shown{}) {
			t.Error(y, x)
		}
	}
	Choose(glyphs([]int{0, -5, 1000, 7}), 2, 5)
	if MinCols != 4 {
		t.Error("the limit")
	}
	if x, ok := Choose(nil, 0, 4); x != (Shown{}) || !ok {
		t.Error(x, ok)
	}
}

// Promises 48.2 and 48.3: lines by chance; the cursor's glyph stands at the column that is told.
func TestLines(t *testing.T) {
	x := ucd.Build(api.Rows())
	chance := rand.New(rand.NewSource(49))
	signs := []rune{'a', 'b', 0x301, 0x4E00, 0x4E01, 1, 0x1F1E6, ' '}
	for range 5000 {
		l := make([]rune, chance.Intn(12))
		for i := range l {
			l[i] = signs[chance.Intn(len(signs))]
		}
		starts := append(seg.Starts(x, l), len(l))
		k := chance.Intn(len(starts))
		cols := MinCols + chance.Intn(8)
		row, col, ok := Row(x, l, starts[k], cols)
		all, ahead := glyph.Line(x, l)
		want := grid.Blank()
		if i := ahead[k]; i < len(all) {
			want = grid.Cell(all[i])
		}
		if !ok || len(row) != cols || row[col] != want {
			t.Fatalf("%x at %d in %d: %s %d", l, starts[k], cols, tell(row), col)
		}
	}
}
