package tally

import (
	"math/rand"
	"strings"
	"testing"

	"typebar/api"
	"typebar/glyph"
	"typebar/grid"
	"typebar/paint"
	"typebar/screen"
	"typebar/ucd"
)

func rowsOf(t *ucd.Tables, cols int, rows ...string) *grid.Grid {
	g := grid.New(len(rows), cols)
	for r, s := range rows {
		c := 0
		for _, x := range glyph.Read(t, s) {
			g.Put(r, c, x)
			c += x.Width
		}
	}
	return g
}

// Promises 36.1 and 36.2.
func TestOf(t *testing.T) {
	tables := ucd.Build(api.Rows())
	for _, x := range []struct {
		old, now []string
		want     Tally
		bound    int
	}{
		{[]string{""}, []string{"> a"}, Tally{1, 7}, 76}, {[]string{"ab"}, []string{"ab"}, Tally{}, 32}, {[]string{"ab", "c"}, []string{"ax", ""}, Tally{2, 13}, 116}, {[]string{"ab"}, []string{"a\u4E00"}, Tally{1, 5}, 68}, {[]string{"ab"}, []string{"ae\u0301\u0323c"}, Tally{1, 8}, 80}, {[]string{"abcd"}, []string{""}, Tally{1, 7}, 76}, {[]string{"ab", "c"}, []string{"ab", "x"}, Tally{1, 7}, 76},
	} {
		if n := Of(rowsOf(tables, 7, x.old...), rowsOf(tables, 7, x.now...)); n != x.want || n.Bound() != x.bound {
			t.Errorf("%q, %q: %v, %d", x.old, x.now, n, n.Bound())
		}
	}
	if Of(grid.New(1, 5), grid.New(1, 6)) != (Tally{}) || Of(nil, grid.New(1, 6)) != (Tally{}) || Of(nil, nil) != (Tally{}) {
		t.Error("grids of two sizes")
	}
	a, b := Tally{2, 3}, Tally{10, 20}
	if a.Add(b) != (Tally{12, 23}) || a.Add(Tally{}) != a || (Tally{}).Add(b) != b || (Tally{}).Add(Tally{}) != (Tally{}) {
		t.Error("both together")
	}
}

// Promise 36.3: what a painter sends.
func TestAny(t *testing.T) {
	tables := ucd.Build(api.Rows())
	chance := rand.New(rand.NewSource(36))
	signs := []rune{'a', 'b', ' ', 0x301, 0x4E00, 1, 0x1F1E6, 0x600, 0xAC00}
	for range 1000 {
		rows, cols := 1+chance.Intn(4), 2+chance.Intn(6)
		p := paint.New(rows, cols)
		shown := grid.New(rows, cols)
		for range 6 {
			v := screen.View{Parts: [][]rune{[]rune("> ")}}
			for range chance.Intn(14) {
				v.Line = append(v.Line, signs[chance.Intn(len(signs))])
			}
			v.Cursor = chance.Intn(len(v.Line) + 1)
			s := screen.Of(tables, v, rows, cols)
			anew := chance.Intn(3) == 0
			if anew {
				shown = grid.New(rows, cols)
			}
			var out string
			p, out = p.Paint(s, anew, chance.Intn(2) == 0)
			if most := Of(shown, s.Grid).Bound(); len(out) > most {
				t.Fatalf("%q has more than %d bytes", strings.ToValidUTF8(out, "?"), most)
			}
			shown = s.Grid
		}
	}
}
