package session

import (
	"math"
	"math/rand"
	"slices"
	"strings"
	"testing"
	"unicode/utf8"

	"typebar/api"
	"typebar/bind"
	"typebar/compose"
	"typebar/decomp"
	"typebar/diff"
	"typebar/editor"
	"typebar/find"
	"typebar/glyph"
	"typebar/grid"
	"typebar/screen"
	"typebar/seg"
	"typebar/ucd"
	"typebar/vterm"
)

// feed feeds bytes, and tells all that is sent.
func feed(s *Session, bytes string) string {
	var out strings.Builder
	for i := range len(bytes) {
		out.WriteString(s.Feed(api.Event{Kind: api.Byte, Byte: bytes[i]}))
	}
	return out.String()
}

// parts tells a view's parts, with a bar between them.
func parts(v screen.View) string {
	var l []string
	for _, p := range v.Parts {
		l = append(l, string(p))
	}
	return strings.Join(l, "|")
}

// Promises 34.1 to 34.4: what is sent, and shown, step by step.
func TestSession(t *testing.T) {
	tables := ucd.Build(api.Rows())
	s, out := New(tables, bind.Map{}, 2, 9)
	if out != ">\x1b[C" && out != "> " {
		t.Errorf("%q", out)
	}
	if out = feed(s, "a"); out != "a" || string(s.Line()) != "a" {
		t.Errorf("%q", out)
	}
	for _, x := range []struct{ bytes, sent, parts, line string }{
		{"b", "b", "> ", "ab"}, {"\x02", "\x1b[D", "> ", "ab"}, {"\x1b", "", "> ", "ab"}, {"[D", "\x1b[D", "> ", "ab"}, {"\x0c", "\x1b[1;1H\x1b[2J> ab\x1b[2D", "> ", "ab"}, {"\x07", "\a", "> ", "ab"}, {"\r", "\x1b[K", "> ", ""}, {"\xc3", "", "> ", ""}, {"\xa9", "\u00E9", "> ", "\u00E9"}, {"\x15", "\x1b[D\x1b[K", "> ", ""},
	} {
		if sent := feed(s, x.bytes); sent != x.sent || parts(s.View()) != x.parts || string(s.Line()) != x.line || string(s.View().Line) != x.line || s.View().Cursor != s.Now().Cursor {
			t.Errorf("%q: %q, %s, %q", x.bytes, sent, parts(s.View()), string(s.Line()))
		}
	}
	if l := s.Lines(); len(l) != 1 || string(l[0]) != "ab" {
		t.Error(l)
	}
	for _, x := range []struct{ bytes, parts, line string }{{"\x12", "(search back)`|': ", ""}, {"b", "(search back)`|b|': ", "ab"}, {"x", "(failed search back)`|bx|': ", "ab"}, {"\x08", "(search back)`|b|': ", "ab"}, {"\x13", "(failed search on)`|b|': ", "ab"}, {"\x08\x08", "(search on)`|': ", ""}} {
		feed(s, x.bytes)
		if got := strings.Replace(parts(s.View()), "`||'", "`|'", 1); got != x.parts || string(s.View().Line) != x.line || len(s.View().Parts) != 3 {
			t.Errorf("%q: %s, %q", x.bytes, parts(s.View()), string(s.View().Line))
		}
	}
	feed(s, "b\x06")
	if len(s.Lines()) != 1 || parts(s.View()) != "> " {
		t.Error(parts(s.View()))
	}
}

// Promise 34.3: ticks, sizes, and what is none of the kinds.
func TestFeed(t *testing.T) {
	tables := ucd.Build(api.Rows())
	s, _ := New(tables, bind.Map{}, 2, 9)
	feed(s, "abc\x1b")
	if out := s.Feed(api.Event{Kind: api.Tick}); out != "\a" {
		t.Errorf("%q", out)
	}
	if out := feed(s, "[A"); out != "[A" {
		t.Errorf("%q", out)
	}
	for _, x := range []api.Event{{}, {Kind: 4, Byte: 'x'}, {Kind: -1, Rows: 5, Cols: 5}, {Kind: api.Size, Rows: 0, Cols: 5}, {Kind: api.Size, Rows: 5, Cols: 1}, {Kind: api.Size, Rows: math.MaxInt, Cols: math.MaxInt}, {Kind: api.Size, Byte: 'x'}} {
		was := s.Screen()
		if out := s.Feed(x); out != "" || !screen.Same(s.Screen(), was) || string(s.Line()) != "abc[A" {
			t.Errorf("%v: %q", x, out)
		}
	}
	if out := s.Feed(api.Event{Kind: api.Size, Rows: 3, Cols: 4}); out != "> ab\x1b[2;1Hc[A" {
		t.Errorf("%q", out)
	}
	if rows, cols := s.Screen().Grid.Size(); rows != 3 || cols != 4 {
		t.Error(rows, cols)
	}
	if out := s.Feed(api.Event{Kind: api.Size, Rows: 3, Cols: 4}); out != "> ab\x1b[2;1Hc[A" {
		t.Errorf("the same size: %q", out)
	}
	// All that the keys of one byte do is told together: what rang first, or said Redraw, counts too.
	s, _ = New(tables, bind.Map{}, 2, 40)
	feed(s, "\x12\xc3")
	if out := feed(s, "\b"); out != "\a" {
		t.Errorf("%q", out)
	}
	s, _ = New(tables, bind.Map{}.With(bind.Stroke{Kind: api.KeyChar, Rune: 0xFFFD}, bind.Redraw), 2, 9)
	feed(s, "a\xc3")
	if out := feed(s, "\x02"); out != "\x1b[1;1H\x1b[2J> a\x1b[D" {
		t.Errorf("%q", out)
	}
	feed(s, "\xc3")
	if out := feed(s, "\x07"); !strings.HasPrefix(out, "\x1b[1;1H\x1b[2J") || !strings.HasSuffix(out, "\a") {
		t.Errorf("%q", out)
	}
}

// Promises 34.2 and 34.4: sizes that are none, nil sessions, memory of its own.
func TestNil(t *testing.T) {
	tables := ucd.Build(api.Rows())
	for _, size := range [][2]int{{0, 5}, {5, 1}, {501, 5}, {1, 1001}, {-1, math.MinInt}} {
		if s, out := New(tables, bind.Map{}, size[0], size[1]); s != nil || out != "" {
			t.Error(size, out)
		}
	}
	var s *Session
	if s.Feed(api.Event{Kind: api.Byte, Byte: 'a'}) != "" || len(s.Lines()) != 0 || len(s.Line()) != 0 || s.Now().Mark != -1 || s.Screen().Grid != nil || len(s.View().Parts) != 0 {
		t.Error("a nil session has something")
	}
	s, _ = New(nil, bind.Map{}, 1, 5)
	feed(s, "ab\r")
	s.Lines()[0][0] = 'x'
	if string(s.Lines()[0]) != "ab" {
		t.Error("lines share memory")
	}
}

// pieces are what is typed by chance, and what is not keys at all.
var pieces = []string{"a", "b", "e", " ", ",", "\u00E9", "\u0301", "\u0301", "\u0323", "\u0915", "\u094D", "\U0001F1E6", "\u4E00", "\u0600", "\u1100", "\u1161", "\x00", "\x01", "\x02", "\x02", "\x04", "\x05", "\x06", "\a", "\b", "\r", "\v", "\x0c", "\x0e", "\x10", "\x11", "\x12", "\x13", "\x14", "\x15", "\x17", "\x18", "\x19", "\x1f", "\x7f", "\x1b\x7f", "\x1b1", "\x1b2", "\x1b-", "\x1bb", "\x1bf", "\x1bd", "\x1bw", "\x1by", "\x1b[A", "\x1b[B", "\x1b[3~", "\x1b[9~", "\x1bO", "\xff", "\xc3", "\x1b", "\x1b[200~e\u0301x\n\x1b[201~", "\x18\x18", "\x18u"}

func anyPiece(chance *rand.Rand) []api.Event {
	var out []api.Event
	switch chance.Intn(30) {
	case 0:
		return []api.Event{{Kind: api.Tick}}
	case 1:
		return []api.Event{{Kind: api.Size, Rows: chance.Intn(5), Cols: 1 + chance.Intn(12)}}
	}
	s := pieces[chance.Intn(len(pieces))]
	for i := range len(s) {
		out = append(out, api.Event{Kind: api.Byte, Byte: s[i]})
	}
	return out
}

// Promises 34.5, T1, T2 and T4: what happens by chance.
func TestAny(t *testing.T) {
	tables := ucd.Build(api.Rows())
	chance := rand.New(rand.NewSource(34))
	for range 150 {
		rows, cols := 1+chance.Intn(4), 2+chance.Intn(12)
		s, out := New(tables, bind.Map{}, rows, cols)
		term := vterm.New(tables, rows, cols)
		shows(t, tables, s, term, term.Screen().Grid, out)
		for range 150 {
			for _, x := range anyPiece(chance) {
				was := s.Now()
				ahead := term.Screen().Grid
				if x.Kind == api.Size && term.Resize(x.Rows, x.Cols) {
					ahead = term.Screen().Grid
				}
				out := s.Feed(x)
				shows(t, tables, s, term, ahead, out)
				sound(t, tables, s, was)
			}
		}
	}
}

// shows tests promise 34.5: what a terminal shows that is sent something.
func shows(t *testing.T, tables *ucd.Tables, s *Session, term *vterm.Term, ahead *grid.Grid, out string) {
	if strings.HasPrefix(out, "\x1b[1;1H\x1b[2J") {
		ahead = grid.New(ahead.Size())
	}
	want := s.Screen()
	if err := term.Write(out); err != api.OK || !screen.Same(term.Screen(), want) {
		t.Fatalf("%q is sent: %q %v, not %q %v", out, term.Screen().Text(), term.Screen().Cursor, want.Text(), want.Cursor)
	}
	most := 32
	for _, x := range diff.Rows(ahead, want.Grid) {
		most += 16
		for _, cell := range want.Grid.Row(x.Row)[x.From:] {
			most += 4 * utf8.RuneCountInString(cell.Text)
		}
	}
	if len(out) > most {
		t.Fatalf("%q has more than %d bytes", out, most)
	}
	v := s.View()
	var l []glyph.Glyph
	for _, part := range append(v.Parts, v.Line) {
		more, _ := glyph.Line(tables, part)
		l = append(l, more...)
	}
	text := ""
	for _, x := range l {
		text += x.Text
	}
	if !slices.Equal(glyph.Read(tables, text), l) {
		t.Fatalf("%q is not plain", text)
	}
}

// sound tests promises T1, T2 and T4 of a session, behind what it was.
func sound(t *testing.T, tables *ucd.Tables, s *Session, was editor.State) {
	l, now := s.Line(), s.Now()
	bounds := append(seg.Starts(tables, l), len(l))
	if !slices.Equal(compose.NFC(tables, l), l) || !slices.Contains(bounds, now.Cursor) || now.Mark != -1 && !slices.Contains(bounds, now.Mark) {
		t.Fatalf("%x, %d, %d", l, now.Cursor, now.Mark)
	}
	if first, cursor, ok := now.Undo.All(l, now.Cursor); !ok || now.Undo.Len() > 0 && (cursor != 0 || len(first) != 0) {
		t.Fatalf("%q is undone to %q, %d", string(l), string(first), cursor)
	}
	if x := now.Search; now.Seeks && len(x.Pattern) > 0 {
		found, _ := now.Past.Line(x.At, l)
		place, _, ok := find.Find(tables, found, x.Pattern)
		if !x.Failed && (!ok || place != x.Place) {
			t.Fatalf("%q is not at %d of %q", string(x.Pattern), x.Place, string(found))
		}
		if x.Failed && was.Seeks && (x.At != was.Search.At && x.At != x.HomeAt) {
			t.Fatalf("a search that failed goes from %d to %d", was.Search.At, x.At)
		}
	}
}

// Promise T3: two sessions that differ in nothing but a paste, whose texts are canonically equivalent.
func TestPaste(t *testing.T) {
	tables := ucd.Build(api.Rows())
	chance := rand.New(rand.NewSource(35))
	texts := []string{"e\u0301", "\u0323\u0301", "a\u0306\u0323x", "\u1100\u1161\u11A8", "x\u212B", "\u0344", "q\u0958"}
	for range 300 {
		a, _ := New(tables, bind.Map{}, 2, 12)
		b, _ := New(tables, bind.Map{}, 2, 12)
		text := []rune(texts[chance.Intn(len(texts))])
		play := func(l []api.Event) {
			for _, x := range l {
				p, q := a.Feed(x), b.Feed(x)
				if p != q || string(a.Line()) != string(b.Line()) || !screen.Same(a.Screen(), b.Screen()) || !slices.EqualFunc(a.Lines(), b.Lines(), slices.Equal) || a.Now().Cursor != b.Now().Cursor || a.Now().Mark != b.Now().Mark {
					t.Fatalf("%q, %q", p, q)
				}
			}
		}
		for range 10 {
			play(anyPiece(chance))
		}
		a.Feed(api.Event{Kind: api.Tick})
		b.Feed(api.Event{Kind: api.Tick})
		p := feed(a, "\x1b[200~"+string(compose.NFC(tables, text))+"\x1b[201~")
		if q := feed(b, "\x1b[200~"+string(decomp.NFD(tables, text))+"\x1b[201~"); p != q {
			t.Fatalf("%q, %q", p, q)
		}
		for range 10 {
			play(anyPiece(chance))
		}
	}
}
