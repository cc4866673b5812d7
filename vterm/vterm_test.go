package vterm

import (
	"math/rand"
	"slices"
	"testing"

	"typebar/api"
	"typebar/glyph"
	"typebar/screen"
	"typebar/ucd"
	"typebar/wrap"
)

// Promises 31.1 and 31.2: what is sent, and what is shown then.
func TestWrite(t *testing.T) {
	tables := ucd.Build(api.Rows())
	for _, x := range []struct {
		rows, cols int
		s          string
		text       []string
		at         wrap.Spot
		full       bool
	}{
		{1, 3, "abc", []string{"abc"}, wrap.Spot{Row: 0, Col: 2}, true}, {1, 3, "abcd", []string{"d"}, wrap.Spot{Row: 0, Col: 1}, false}, {2, 3, "abcd", []string{"abc", "d"}, wrap.Spot{Row: 1, Col: 1}, false}, {2, 3, "abcdefg", []string{"def", "g"}, wrap.Spot{Row: 1, Col: 1}, false},
		{2, 3, "ab\u4E00", []string{"ab", "\u4E00"}, wrap.Spot{Row: 1, Col: 2}, false}, {2, 2, "\u4E00", []string{"\u4E00", ""}, wrap.Spot{Row: 0, Col: 1}, true}, {2, 3, "a\u4E00b", []string{"a\u4E00", "b"}, wrap.Spot{Row: 1, Col: 1}, false},
		{2, 3, "ab\rx", []string{"xb", ""}, wrap.Spot{Row: 0, Col: 1}, false}, {2, 3, "ab\nx", []string{"ab", "  x"}, wrap.Spot{Row: 1, Col: 2}, true}, {2, 3, "abc\n\nx", []string{"", "  x"}, wrap.Spot{Row: 1, Col: 2}, true}, {2, 3, "abc\rd", []string{"dbc", ""}, wrap.Spot{Row: 0, Col: 1}, false}, {2, 3, "abc\nd", []string{"abc", "  d"}, wrap.Spot{Row: 1, Col: 2}, true},
		{2, 3, "\x1b[2;3Hx", []string{"", "  x"}, wrap.Spot{Row: 1, Col: 2}, true}, {2, 3, "\x1b[9;9Hx", []string{"", "  x"}, wrap.Spot{Row: 1, Col: 2}, true}, {2, 3, "abc\x1b[1;3Hd", []string{"abd", ""}, wrap.Spot{Row: 0, Col: 2}, true}, {2, 3, "abc\x1b[1;2H\x1b[K", []string{"a", ""}, wrap.Spot{Row: 0, Col: 1}, false}, {2, 3, "abc\x1b[K", []string{"ab", ""}, wrap.Spot{Row: 0, Col: 2}, true},
		{2, 3, "abcd\x1b[2J", []string{"", ""}, wrap.Spot{Row: 1, Col: 1}, false}, {2, 3, "abc\x1b[2Jd", []string{"", "d"}, wrap.Spot{Row: 1, Col: 1}, false}, {2, 3, "abc\x1b[D", []string{"abc", ""}, wrap.Spot{Row: 0, Col: 1}, false}, {2, 3, "abc\x1b[C", []string{"abc", ""}, wrap.Spot{Row: 0, Col: 2}, false}, {2, 3, "abc\x1b[9Dx", []string{"xbc", ""}, wrap.Spot{Row: 0, Col: 1}, false}, {2, 3, "a\x1b[9Bb", []string{"a", " b"}, wrap.Spot{Row: 1, Col: 2}, false}, {2, 3, "abcd\x1b[9Ax", []string{"axc", "d"}, wrap.Spot{Row: 0, Col: 2}, false},
		{2, 3, "a\u0301b\a", []string{"a\u0301b", ""}, wrap.Spot{Row: 0, Col: 2}, false}, {2, 4, "\u4E00\x1b[1;2Hx", []string{" x", ""}, wrap.Spot{Row: 0, Col: 2}, false}, {2, 4, "a\u4E00\nb\nc\u4E01", []string{"   c", "\u4E01"}, wrap.Spot{Row: 1, Col: 2}, false}, {3, 4, "\u4E00\u4E01\r\n\na\u4E02\n\n", []string{"a\u4E02", "", ""}, wrap.Spot{Row: 2, Col: 3}, false},
	} {
		term := New(tables, x.rows, x.cols)
		if err := term.Write(x.s); err != api.OK {
			t.Errorf("%q: %d", x.s, err)
		}
		if s := term.Screen(); !slices.Equal(s.Text(), x.text) || s.Cursor != x.at || term.full != x.full {
			t.Errorf("%q: %q %v %v", x.s, s.Text(), s.Cursor, term.full)
		}
	}
}

// Promises 31.1 to 31.3: sizes, errors, bells, nil terminals.
func TestEdges(t *testing.T) {
	tables := ucd.Build(api.Rows())
	term := New(tables, 2, 5)
	term.Write("ab\a\acd\ae")
	was := term.Screen()
	for _, s := range []string{"x\x00", "\x1b[", "xy\x1b[0C", "\a\x7f"} {
		if err := term.Write(s); err != api.ErrForm || !screen.Same(term.Screen(), was) || term.Bells() != 3 || !term.full {
			t.Errorf("%q: %d", s, err)
		}
	}
	for _, size := range [][2]int{{0, 5}, {5, 1}, {501, 2}, {1, 1001}, {-1, -1}} {
		if term.Resize(size[0], size[1]) || !screen.Same(term.Screen(), was) || New(tables, size[0], size[1]) != nil {
			t.Error(size)
		}
	}
	term.Screen().Grid.Put(0, 0, glyph.Glyph{Text: "x", Width: 1})
	if !screen.Same(term.Screen(), was) {
		t.Error("the screen shares memory with the terminal")
	}
	if !term.Resize(3, 4) || !screen.Same(term.Screen(), New(tables, 3, 4).Screen()) || term.Bells() != 3 || term.full {
		t.Error("another size")
	}
	if !term.Resize(3, 4) || term.Write("") != api.OK || term.Screen().Cursor != (wrap.Spot{}) {
		t.Error("the same size")
	}
	var none *Term
	if none.Write("") != api.ErrState || none.Write("\x00") != api.ErrState || none.Resize(2, 2) || none.Bells() != 0 || !screen.Same(none.Screen(), screen.Screen{}) {
		t.Error("a nil terminal")
	}
}

// Promise 31.4: what is sent in two parts.
func TestAny(t *testing.T) {
	tables := ucd.Build(api.Rows())
	chance := rand.New(rand.NewSource(31))
	parts := []string{"abc", "\u4E00", "a\u0301", "\r", "\n", "\a", "\x1b[K", "\x1b[2J", "\x1b[2;3H", "\x1b[C", "\x1b[2D", "\x1b[A", "\x1b[B", "  "}
	for range 3000 {
		rows, cols := 1+chance.Intn(3), 2+chance.Intn(5)
		whole, apart := New(tables, rows, cols), New(tables, rows, cols)
		all := ""
		for range chance.Intn(12) {
			s := parts[chance.Intn(len(parts))]
			all += s
			apart.Write(s)
		}
		whole.Write(all)
		a, b := whole.Screen(), apart.Screen()
		if !screen.Same(a, b) || whole.full != apart.full || whole.Bells() != apart.Bells() {
			t.Fatalf("%q: %q %v, in parts %q %v", all, a.Text(), a.Cursor, b.Text(), b.Cursor)
		}
		if a.Cursor.Row < 0 || a.Cursor.Row >= rows || a.Cursor.Col < 0 || a.Cursor.Col >= cols || whole.full && a.Cursor.Col != cols-1 {
			t.Fatalf("%q: %v", all, a.Cursor)
		}
	}
}
