package flow

import (
	"math"
	"math/rand"
	"slices"
	"strings"
	"testing"

	"typebar/api"
	"typebar/glyph"
	"typebar/seg"
	"typebar/ucd"
)

// Promise 49.1: rows, each with a bar behind it.
func TestOf(t *testing.T) {
	x := ucd.Build(api.Rows())
	for _, want := range []struct {
		s      string
		cols   int
		rows   string
		widths []int
	}{
		{"one two three", 8, "one two |three|", []int{7, 5}}, {"one two three", 7, "one two |three|", []int{7, 5}}, {"one two three", 6, "one |two |three|", []int{3, 3, 5}}, {"", 8, "", nil}, {"abcdefgh", 3, "abc|def|gh|", []int{3, 3, 2}}, {"ab cdefgh", 3, "ab |cde|fgh|", []int{2, 3, 3}}, {"ab   cd", 2, "ab   |cd|", []int{2, 2}}, {"ab   cd", 6, "ab   |cd|", []int{2, 2}}, {"ab   cd", 7, "ab   cd|", []int{7}},
		{"ab    ", 2, "ab    |", []int{2}}, {"   ", 1, "   |", []int{0}}, {"  ab", 3, "  |ab|", []int{0, 2}}, {"  ab", 2, "  |ab|", []int{0, 2}}, {"  abcd", 3, "  |abc|d|", []int{0, 3, 1}}, {"\u4E00\u4E01", 3, "\u4E00|\u4E01|", []int{2, 2}}, {"\u4E00a", 1, "\u4E00|a|", []int{2, 1}}, {"a b", 0, "a| |b|", []int{1, 0, 1}}, {"a b", -1, "a| |b|", []int{1, 0, 1}}, {"  ", -1, " | |", []int{0, 0}}, {"  ", 0, "  |", []int{0}},
		{"a e\u0301b", 2, "a |e\u0301b|", []int{1, 2}}, {"a \u0301b", 2, "a \u0301|b|", []int{2, 1}}, {"a\tb", 3, "a\t|b|", []int{3, 1}}, {"a b ", 2, "a |b |", []int{1, 1}}, {"a b c", math.MaxInt, "a b c|", []int{5}}, {"a  b", math.MinInt, "a| | |b|", []int{1, 0, 0, 1}},
	} {
		l := []rune(want.s)
		rows := ""
		var widths []int
		for _, r := range Of(x, l, want.cols) {
			rows += string(l[r.From:r.To]) + "|"
			widths = append(widths, r.Width)
		}
		if rows != want.rows || !slices.Equal(widths, want.widths) {
			t.Errorf("%q in %d: %q %v", want.s, want.cols, rows, widths)
		}
	}
}

// plain tells the end, in clusters, of the row that begins with the first one, and its width, trying all ends.
func plain(x *ucd.Tables, l [][]rune, cols int) (int, int) {
	blank := func(c []rune) bool { return len(c) == 1 && c[0] == ' ' }
	width := func(n int) int {
		for n > 0 && blank(l[n-1]) {
			n--
		}
		w := 0
		for _, c := range l[:n] {
			for _, g := range glyph.Of(x, c) {
				w += g.Width
			}
		}
		return w
	}
	whole, any := 0, 1
	for n := 1; n <= len(l); n++ {
		if width(n) > cols {
			continue
		}
		any = n
		if n == len(l) || blank(l[n-1]) && !blank(l[n]) {
			whole = n
		}
	}
	if whole > 0 {
		return whole, width(whole)
	}
	return any, width(any)
}

// Promises 49.1, 49.2 and 49.4: texts by chance.
func TestAny(t *testing.T) {
	x := ucd.Build(api.Rows())
	chance := rand.New(rand.NewSource(49))
	signs := []rune{'a', 'b', ' ', ' ', ' ', 0x301, 0x4E00, 1, 0x600}
	for range 10000 {
		l := make([]rune, chance.Intn(14))
		for i := range l {
			l[i] = signs[chance.Intn(len(signs))]
		}
		cols := chance.Intn(8) - 1
		rows := Of(x, l, cols)
		clusters := seg.Clusters(x, l)
		from, widest := 0, 0
		for i, r := range rows {
			n, width := plain(x, clusters, cols)
			to := from + len(slices.Concat(clusters[:n]...))
			if r != (Row{from, to, width}) {
				t.Fatalf("%q in %d: %v", string(l), cols, rows)
			}
			if cols >= 2 && !slices.Contains(l, 1) && r.Width > cols {
				t.Fatalf("%q in %d: %v is wider", string(l), cols, r)
			}
			for at := from; at < to || at == to && i == len(rows)-1; at++ {
				if k, ok := Find(rows, at); k != i || !ok {
					t.Fatalf("%q in %d: %d is in %d, %v", string(l), cols, at, k, ok)
				}
			}
			widest = max(widest, width)
			clusters, from = clusters[n:], to
		}
		if from != len(l) || Widest(rows) != widest {
			t.Fatalf("%q in %d: %v", string(l), cols, rows)
		}
		for _, at := range []int{-1, len(l) + 1, math.MinInt, math.MaxInt} {
			if k, ok := Find(rows, at); k != 0 || ok {
				t.Fatalf("%d is in %d", at, k)
			}
		}
		for side, rest := range []func(Row) int{func(Row) int { return 0 }, func(r Row) int { return max(cols-r.Width, 0) }, func(r Row) int { return max(cols-r.Width, 0) / 2 }} {
			texts := Texts(x, l, cols, side)
			if cols < 1 {
				if len(texts) != 0 {
					t.Fatal(texts)
				}
				continue
			}
			for i, r := range rows {
				body := seg.Clusters(x, l[r.From:r.To])
				for len(body) > 0 && slices.Equal(body[len(body)-1], []rune{' '}) {
					body = body[:len(body)-1]
				}
				want := strings.Repeat(" ", rest(r))
				for _, c := range body {
					for _, g := range glyph.Of(x, c) {
						want += g.Text
					}
				}
				if texts[i] != want {
					t.Fatalf("%q in %d, %d: %q", string(l), cols, side, texts)
				}
			}
		}
	}
	if Widest(nil) != 0 || Widest([]Row{{0, 1, 1}, {1, 5, 4}, {5, 6, 1}}) != 4 {
		t.Error("widest")
	}
	if k, ok := Find(nil, 0); k != 0 || ok {
		t.Error("a row of none")
	}
}

// Promise 49.3.
func TestTexts(t *testing.T) {
	x := ucd.Build(api.Rows())
	for _, want := range []struct {
		s          string
		cols, side int
		texts      []string
	}{
		{"one two three", 8, Left, []string{"one two", "three"}}, {"one two three", 8, Right, []string{" one two", "   three"}}, {"one two three", 8, Center, []string{"one two", " three"}}, {"", 8, Right, nil}, {"   ", 4, Right, []string{"    "}}, {"   ", 4, Left, []string{""}}, {"\u4E00", 1, Right, []string{"\u4E00"}}, {"\x01", 4, Center, []string{" ^A"}}, {"\u0301", 3, Right, []string{"  \u25CC\u0301"}},
		{"a \u0301", 4, Left, []string{"a \u0301"}}, {"\u0600 ", 4, Left, []string{"\u0600 "}}, {"a", 0, Left, nil}, {"a", -1, Left, nil}, {"a", api.MaxCols + 1, Left, nil}, {"a", 5, 3, nil}, {"a", 5, -1, nil}, {"a", math.MaxInt, math.MinInt, nil},
	} {
		if l := Texts(x, []rune(want.s), want.cols, want.side); !slices.Equal(l, want.texts) {
			t.Errorf("%q in %d, %d: %q", want.s, want.cols, want.side, l)
		}
	}
	if l := Texts(x, []rune("a"), api.MaxCols, Right); len(l) != 1 || len(l[0]) != api.MaxCols {
		t.Error(len(l))
	}
}

// Rule R1: a long text comes to an end.
func TestLong(t *testing.T) {
	x := ucd.Build(api.Rows())
	if rows := Of(x, slices.Repeat([]rune{'a', ' '}, 100000), 2); len(rows) != 100000 {
		t.Error(len(rows))
	}
	if rows := Of(x, slices.Repeat([]rune{' '}, 200000), -1); len(rows) != 200000 {
		t.Error(len(rows))
	}
}
