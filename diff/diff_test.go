package diff

import (
	"math"
	"math/rand"
	"slices"
	"strings"
	"testing"

	"typebar/ansi"
	"typebar/api"
	"typebar/glyph"
	"typebar/grid"
	"typebar/screen"
	"typebar/ucd"
	"typebar/vterm"
	"typebar/wrap"
)

// row makes a grid of rows that are texts.
func rowsOf(t *ucd.Tables, cols int, rows ...string) *grid.Grid {
	g := grid.New(len(rows), cols)
	for r, s := range rows {
		c := 0
		for _, x := range glyph.Read(t, s) {
			g.Put(r, c, x)
			c += x.Width
		}
	}
	return g
}

// Promise 32.1.
func TestRows(t *testing.T) {
	tables := ucd.Build(api.Rows())
	for _, x := range []struct {
		old, now string
		want     []Row
	}{
		{"abc", "axc", []Row{{0, 1, 3, "xc", false}}}, {"abc", "a", []Row{{0, 1, 1, "", true}}}, {"abc", "abc", nil}, {"", "", nil}, {"abc", "ab", []Row{{0, 2, 2, "", true}}}, {"abc", "x", []Row{{0, 0, 1, "x", true}}}, {"", "  b", []Row{{0, 2, 3, "b", false}}}, {"abc", "", []Row{{0, 0, 0, "", true}}}, {"a", "bcde", []Row{{0, 0, 4, "bcde", false}}},
		{"abcde", "abxde", []Row{{0, 2, 5, "xde", false}}}, {"\u4E00b", "\u4E01", []Row{{0, 0, 2, "\u4E01", true}}}, {"a\u4E00", "a", []Row{{0, 1, 1, "", true}}}, {"abc", "a\u4E00", []Row{{0, 1, 3, "\u4E00", false}}}, {"a\u4E00", "abc", []Row{{0, 1, 3, "bc", false}}}, {"abcde", "abc e", []Row{{0, 3, 5, " e", false}}}, {"ab  e", "ab", []Row{{0, 4, 4, "", true}}},
	} {
		old, now := rowsOf(tables, 5, x.old), rowsOf(tables, 5, x.now)
		if l := Rows(old, now); !slices.Equal(l, x.want) {
			t.Errorf("%q, %q: %v", x.old, x.now, l)
		}
	}
	old, now := rowsOf(tables, 3, "a", "b", "c"), rowsOf(tables, 3, "x", "b", "")
	if l := Rows(old, now); !slices.Equal(l, []Row{{0, 0, 1, "x", false}, {2, 0, 0, "", true}}) {
		t.Error(l)
	}
	if len(Rows(old, grid.New(3, 4))) != 0 || len(Rows(old, grid.New(2, 3))) != 0 || len(Rows(nil, old)) != 0 || len(Rows(old, nil)) != 0 || len(Rows(nil, nil)) != 0 {
		t.Error("grids of two sizes")
	}
}

// Promise 32.2.
func TestOps(t *testing.T) {
	spot := func(r, c int) wrap.Spot { return wrap.Spot{Row: r, Col: c} }
	for _, x := range []struct {
		l         []Row
		cols      int
		at        wrap.Spot
		known     bool
		s         string
		to        wrap.Spot
		knownThen bool
	}{
		{nil, 5, spot(1, 2), true, "", spot(1, 2), true}, {nil, 5, spot(1, 2), false, "", spot(1, 2), false}, {[]Row{{0, 1, 3, "xc", false}}, 5, spot(0, 1), true, "xc", spot(0, 3), true}, {[]Row{{0, 1, 3, "xc", false}}, 5, spot(0, 1), false, "\x1b[1;2Hxc", spot(0, 3), true}, {[]Row{{0, 1, 1, "", true}}, 5, spot(0, 2), true, "\x1b[D\x1b[K", spot(0, 1), true},
		{[]Row{{0, 1, 3, "xc", false}, {1, 0, 1, "y", true}}, 3, spot(0, 1), true, "xc\x1b[2;1Hy\x1b[K", spot(1, 1), true}, {[]Row{{0, 1, 2, "x", false}, {1, 2, 3, "y", false}}, 3, spot(0, 1), true, "x\x1b[By", spot(1, 3), false},
	} {
		l, to, known := Ops(x.l, x.cols, x.at, x.known)
		if ansi.All(l) != x.s || to != x.to || known != x.knownThen {
			t.Errorf("%v: %q %v %v", x.l, ansi.All(l), to, known)
		}
	}
	if s := ansi.All(Go(spot(0, 1), true, spot(0, 1))); s != "" {
		t.Errorf("%q", s)
	}
	if s := ansi.All(Go(spot(0, 1), false, spot(0, 1))); s != "\x1b[1;2H" {
		t.Errorf("%q", s)
	}
	Ops([]Row{{math.MinInt, math.MaxInt, math.MinInt, "", true}}, math.MinInt, spot(math.MaxInt, math.MinInt), true)
}

// Promise 32.3: a terminal that shows one view, and is sent what makes another one of it.
func TestAny(t *testing.T) {
	tables := ucd.Build(api.Rows())
	chance := rand.New(rand.NewSource(32))
	signs := []rune{'a', 'b', ' ', 0x301, 0x4E00, 0x4E01, 1, 0x1F1E6, 0x600, 0xAC00, 0x1161}
	view := func() screen.View {
		v := screen.View{Parts: [][]rune{[]rune("> ")}}
		for range chance.Intn(14) {
			v.Line = append(v.Line, signs[chance.Intn(len(signs))])
		}
		v.Cursor = chance.Intn(len(v.Line) + 1)
		return v
	}
	for range 5000 {
		rows, cols := 1+chance.Intn(4), 2+chance.Intn(6)
		term := vterm.New(tables, rows, cols)
		at := wrap.Spot{}
		known := true
		for range 5 {
			was := term.Screen()
			s := screen.Of(tables, view(), rows, cols)
			var l []ansi.Op
			l, at, known = Ops(Rows(was.Grid, s.Grid), cols, at, known)
			l = append(l, Go(at, known, s.Cursor)...)
			if err := term.Write(ansi.All(l)); err != api.OK || !screen.Same(term.Screen(), s) {
				t.Fatalf("%q is sent: %q %v, not %q %v", ansi.All(l), term.Screen().Text(), term.Screen().Cursor, s.Text(), s.Cursor)
			}
			at, known = s.Cursor, true
			if strings.Contains(ansi.All(l), "\x1b[0") {
				t.Fatal("a way of nothing")
			}
		}
	}
}
