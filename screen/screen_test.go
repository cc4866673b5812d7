package screen

import (
	"math"
	"math/rand"
	"slices"
	"testing"

	"typebar/api"
	"typebar/glyph"
	"typebar/grid"
	"typebar/seg"
	"typebar/ucd"
	"typebar/wrap"
)

// Promises 29.1 and 29.2: the example, and others.
func TestOf(t *testing.T) {
	x := ucd.Build(api.Rows())
	for _, want := range []struct {
		part, line string
		at         int
		rows, cols int
		text       []string
		cursor     wrap.Spot
	}{
		{"> ", "abc", 1, 2, 4, []string{"> ab", "c"}, wrap.Spot{Row: 0, Col: 3}}, {"> ", "abc", 0, 2, 4, []string{"> ab", "c"}, wrap.Spot{Row: 0, Col: 2}}, {"> ", "abc", 3, 2, 4, []string{"> ab", "c"}, wrap.Spot{Row: 1, Col: 1}}, {"> ", "abc", 9, 2, 4, []string{"> ab", "c"}, wrap.Spot{Row: 1, Col: 1}}, {"> ", "abc", -9, 2, 4, []string{"> ab", "c"}, wrap.Spot{Row: 0, Col: 2}},
		{"> ", "", 0, 2, 4, []string{">", ""}, wrap.Spot{Row: 0, Col: 2}}, {"", "", 0, 1, 2, []string{""}, wrap.Spot{}}, {"> ", "ab", 2, 2, 4, []string{"> ab", ""}, wrap.Spot{Row: 1, Col: 0}}, {"> ", "ab", 2, 1, 4, []string{""}, wrap.Spot{}}, {"> ", "ab", 1, 1, 4, []string{"> ab"}, wrap.Spot{Row: 0, Col: 3}},
		{"> ", "abcdefgh", 8, 2, 4, []string{"cdef", "gh"}, wrap.Spot{Row: 1, Col: 2}}, {"> ", "abcdefgh", 3, 2, 4, []string{"> ab", "cdef"}, wrap.Spot{Row: 1, Col: 1}}, {"> ", "abcdefghijkl", 7, 3, 4, []string{"cdef", "ghij", "kl"}, wrap.Spot{Row: 1, Col: 1}},
		{">", "\u4E00\u4E01", 1, 2, 4, []string{">\u4E00", "\u4E01"}, wrap.Spot{Row: 1, Col: 0}}, {">", "\x01a", 1, 1, 9, []string{">^Aa"}, wrap.Spot{Row: 0, Col: 3}}, {">", "e\u0301a", 1, 1, 9, []string{">e\u0301a"}, wrap.Spot{Row: 0, Col: 2}}, {"", "a  ", 0, 1, 9, []string{"a"}, wrap.Spot{}},
	} {
		s := Of(x, View{[][]rune{[]rune(want.part)}, []rune(want.line), want.at}, want.rows, want.cols)
		if !slices.Equal(s.Text(), want.text) || s.Cursor != want.cursor {
			t.Errorf("%q, %q, %d in %d, %d: %q, %v", want.part, want.line, want.at, want.rows, want.cols, s.Text(), s.Cursor)
		}
	}
}

// Promise 29.1: parts are clusters by themselves.
func TestParts(t *testing.T) {
	x := ucd.Build(api.Rows())
	v := View{Parts: [][]rune{{'e'}, {0x301}, {}, {'x'}}, Line: []rune{0x301}}
	s := Of(x, v, 1, 9)
	if !slices.Equal(s.Text(), []string{"e\u25CC\u0301x\u25CC\u0301"}) || s.Cursor.Col != 3 {
		t.Errorf("%q %v", s.Text(), s.Cursor)
	}
}

// Promises 29.1 and 29.3: views by chance.
func TestAny(t *testing.T) {
	x := ucd.Build(api.Rows())
	chance := rand.New(rand.NewSource(29))
	signs := []rune{'a', 'b', ' ', 0x301, 0x4E00, 1, 0x1F1E6, 0x600, 0xD, 0xA}
	for range 5000 {
		v := View{Parts: make([][]rune, chance.Intn(3)), Cursor: chance.Intn(20) - 2}
		for i := range v.Parts {
			v.Parts[i] = []rune("(a) ")[:chance.Intn(5)]
		}
		for range chance.Intn(16) {
			v.Line = append(v.Line, signs[chance.Intn(len(signs))])
		}
		rows, cols := 1+chance.Intn(4), 2+chance.Intn(6)
		var l []glyph.Glyph
		for _, part := range v.Parts {
			more, _ := glyph.Line(x, part)
			l = append(l, more...)
		}
		at := -1
		place := 0
		for _, c := range seg.Clusters(x, v.Line) {
			if place >= v.Cursor && at < 0 {
				at = len(l)
			}
			l = append(l, glyph.Of(x, c)...)
			place += len(c)
		}
		if at < 0 {
			at = len(l)
		}
		spots := wrap.Place(l, cols)
		top := wrap.Top(spots[len(l)].Row+1, rows, spots[at].Row)
		want := Screen{wrap.Lay(l, rows, cols, top), wrap.Spot{Row: spots[at].Row - top, Col: spots[at].Col}}
		s := Of(x, v, rows, cols)
		if !Same(s, want) || s.Cursor.Row < 0 || s.Cursor.Row >= rows || s.Cursor.Col < 0 || s.Cursor.Col >= cols {
			t.Fatalf("%v in %d, %d: %q %v", v, rows, cols, s.Text(), s.Cursor)
		}
	}
}

// Promises 29.1 and 29.2: sizes that are none, and what is the same.
func TestEdges(t *testing.T) {
	x := ucd.Build(api.Rows())
	v := View{Line: []rune("a")}
	for _, size := range [][2]int{{0, 5}, {1, 1}, {501, 5}, {5, 1001}, {math.MinInt, math.MaxInt}} {
		if s := Of(x, v, size[0], size[1]); s.Grid != nil || s.Cursor != (wrap.Spot{}) || len(s.Text()) != 0 {
			t.Error(size, s)
		}
	}
	a, b := Of(x, v, 1, 5), Of(x, v, 1, 5)
	if !Same(a, b) || Same(a, Screen{}) || !Same(Screen{}, Screen{}) || Same(a, Of(x, v, 2, 5)) || Same(a, Screen{a.Grid, wrap.Spot{Row: 0, Col: 1}}) || Same(a, Screen{grid.New(1, 5), a.Cursor}) {
		t.Error("what is the same")
	}
	v.Cursor = math.MaxInt
	if s := Of(x, v, 1, 5); s.Cursor.Col != 1 {
		t.Error(s.Cursor)
	}
	v.Cursor = math.MinInt
	if s := Of(nil, v, 1, 5); s.Cursor.Col != 0 {
		t.Error(s.Cursor)
	}
}
