package paint

import (
	"math/rand"
	"testing"
	"unicode/utf8"

	"typebar/api"
	"typebar/diff"
	"typebar/glyph"
	"typebar/grid"
	"typebar/screen"
	"typebar/ucd"
	"typebar/vterm"
	"typebar/wrap"
)

// line tells the screen of a line behind a prompt.
func line(t *ucd.Tables, s string, at, rows, cols int) screen.Screen {
	return screen.Of(t, screen.View{Parts: [][]rune{[]rune("> ")}, Line: []rune(s), Cursor: at}, rows, cols)
}

// Promises 33.1 and 33.2: what is sent, step by step.
func TestPaint(t *testing.T) {
	tables := ucd.Build(api.Rows())
	p := New(1, 9)
	for _, x := range []struct {
		line       string
		at         int
		anew, bell bool
		s          string
	}{
		{"a", 1, false, false, "> a"}, {"ab", 2, false, false, "b"}, {"ab", 2, false, false, ""}, {"ab", 2, false, true, "\a"}, {"ab", 1, false, false, "\x1b[D"}, {"b", 0, false, true, "\x1b[Db\x1b[K\x1b[D\a"}, {"b", 0, true, false, "\x1b[1;1H\x1b[2J> b\x1b[D"}, {"b", 0, true, true, "\x1b[1;1H\x1b[2J> b\x1b[D\a"}, {"", 0, false, false, "\x1b[K"},
		{"abcdefg", 0, false, false, "abcdefg\x1b[1;3H"}, {"abcdefg", 7, false, false, "\r\x1b[K"},
	} {
		s := line(tables, x.line, x.at, 1, 9)
		if x.line == "abcdefg" && x.at == 7 {
			s = screen.Screen{Grid: grid.New(1, 9)}
		}
		var out string
		was := p
		if p, out = p.Paint(s, x.anew, x.bell); out != x.s {
			t.Errorf("%q at %d: %q, not %q", x.line, x.at, out, x.s)
		}
		if _, again := was.Paint(s, x.anew, x.bell); again != out {
			t.Error("a painter was changed")
		}
	}
}

// Promises 33.1 and 33.2: sizes.
func TestSizes(t *testing.T) {
	tables := ucd.Build(api.Rows())
	p, first := New(2, 9).Paint(line(tables, "a", 1, 2, 9), false, false)
	for _, s := range []screen.Screen{{}, line(tables, "a", 1, 2, 8), line(tables, "a", 1, 3, 9)} {
		q, out := p.Paint(s, true, true)
		if _, again := q.Paint(line(tables, "a", 1, 2, 9), false, false); out != "" || again != "" {
			t.Errorf("%q %q", out, again)
		}
	}
	if rows, cols := p.Size(); rows != 2 || cols != 9 || first != "> a" {
		t.Error(rows, cols, first)
	}
	for _, p := range []Painter{{}, New(0, 5), New(5, 1), New(501, 5), New(-1, -1)} {
		rows, cols := p.Size()
		if _, out := p.Paint(screen.Screen{}, true, true); rows != 0 || cols != 0 || out != "" || p != (Painter{}) {
			t.Error(rows, cols, out)
		}
	}
	s := line(tables, "a", 1, 2, 9)
	p, _ = New(2, 9).Paint(s, false, false)
	s.Grid.Put(0, 0, glyph.Glyph{Text: "x", Width: 1})
	if _, out := p.Paint(line(tables, "a", 1, 2, 9), false, false); out != "" {
		t.Errorf("the painter keeps the grid as it is: %q", out)
	}
}

// Promise 33.3: views by chance; what is shown, and how much is sent.
func TestAny(t *testing.T) {
	tables := ucd.Build(api.Rows())
	chance := rand.New(rand.NewSource(33))
	signs := []rune{'a', 'b', ' ', 0x301, 0x4E00, 1, 0x1F1E6, 0x600, 0xAC00}
	for range 2000 {
		rows, cols := 1+chance.Intn(4), 2+chance.Intn(6)
		p, term := New(rows, cols), vterm.New(tables, rows, cols)
		shown := grid.New(rows, cols)
		bells := 0
		for range 6 {
			var l []rune
			for range chance.Intn(14) {
				l = append(l, signs[chance.Intn(len(signs))])
			}
			anew, bell := chance.Intn(4) == 0, chance.Intn(4) == 0
			s := line(tables, string(l), chance.Intn(len(l)+1), rows, cols)
			var out string
			p, out = p.Paint(s, anew, bell)
			if bell {
				bells++
			}
			if anew {
				shown = grid.New(rows, cols)
			}
			if err := term.Write(out); err != api.OK || !screen.Same(term.Screen(), s) || term.Bells() != bells {
				t.Fatalf("%q: %q", out, term.Screen().Text())
			}
			most := 32
			for _, x := range diff.Rows(shown, s.Grid) {
				most += 16
				for _, cell := range s.Grid.Row(x.Row)[x.From:] {
					most += 4 * utf8.RuneCountInString(cell.Text)
				}
			}
			if len(out) > most {
				t.Fatalf("%q has more than %d bytes", out, most)
			}
			shown = s.Grid
		}
	}
	if at := (wrap.Spot{}); New(1, 2).at != at {
		t.Error("a new cursor")
	}
}
