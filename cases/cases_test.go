package cases

import (
	"math"
	"math/rand"
	"slices"
	"testing"

	"typebar/api"
	"typebar/compose"
	"typebar/decomp"
	"typebar/text"
	"typebar/ucd"
	"typebar/word"
)

// plainGreat tells a scalar's great one, as the chapter says it.
func plainGreat(r rune) rune {
	in := func(from, to rune) bool { return r >= from && r <= to }
	switch {
	case r == 0x3C2:
		return 0x3A3
	case in(0x61, 0x7A), r == 0xE6, r == 0xF0, r == 0xF8, r == 0xFE, in(0x3B1, 0x3C9), in(0x430, 0x44F):
		return r - 0x20
	case in(0x450, 0x45F):
		return r - 0x50
	}
	return r
}

// plainSmall tells the small one whose great one a scalar is.
func plainSmall(r rune) rune {
	for _, x := range []rune{r + 0x20, r + 0x50} {
		if plainGreat(x) == r && x != 0x3C2 {
			return x
		}
	}
	return r
}

// Promise 51.1: all letters.
func TestLetters(t *testing.T) {
	for r := rune(-2); r < 0x1000; r++ {
		if great(r) != plainGreat(r) || small(r) != plainSmall(r) {
			t.Errorf("%x: %x %x", r, great(r), small(r))
		}
	}
	if great(math.MaxInt32) != math.MaxInt32 || small(math.MinInt32) != math.MinInt32 || great(0x3C2) != 0x3A3 || small(0x3A3) != 0x3C3 || small(0x3A2) != 0x3A2 {
		t.Error("edges")
	}
}

// Promises 51.1 and 51.2: the examples, and others.
func TestTexts(t *testing.T) {
	x := ucd.Build(api.Rows())
	for _, want := range []struct{ s, up, down, title string }{
		{"", "", "", ""}, {"e\u0301", "\u00C9", "\u00E9", "\u00C9"}, {"\u00C9", "\u00C9", "\u00E9", "\u00C9"}, {"oNE two", "ONE TWO", "one two", "One Two"}, {"1ab-CD", "1AB-CD", "1ab-cd", "1Ab-Cd"}, {"\u03C3\u03C2", "\u03A3\u03A3", "\u03C3\u03C2", "\u03A3\u03C2"}, {"\u03A3", "\u03A3", "\u03C3", "\u03A3"}, {"\u0451\u0436", "\u0401\u0416", "\u0451\u0436", "\u0401\u0436"}, {"\u00E6\u00F7\u00DF", "\u00C6\u00F7\u00DF", "\u00E6\u00F7\u00DF", "\u00C6\u00F7\u00DF"}, {"\u00C6\u00D7", "\u00C6\u00D7", "\u00E6\u00D7", "\u00C6\u00D7"},
		{"\u1EA1\u0302b", "\u1EACB", "\u1EADb", "\u1EACb"}, {"\u212B", "\u00C5", "\u00E5", "\u00C5"}, {"\u4E00 a", "\u4E00 A", "\u4E00 a", "\u4E00 A"}, {"...aB", "...AB", "...ab", "...Ab"}, {"_aB", "_AB", "_ab", "_Ab"},
	} {
		for kind, out := range []string{want.up, want.down, want.title} {
			if l, ok := Text(x, kind, []rune(want.s)); string(l) != out || !ok {
				t.Errorf("%q, %d: %q %v", want.s, kind, string(l), ok)
			}
		}
		if string(Upper(x, []rune(want.s))) != want.up || string(Lower(x, []rune(want.s))) != want.down || string(Titled(x, []rune(want.s))) != want.title {
			t.Errorf("%q", want.s)
		}
	}
	for _, kind := range []int{-1, 3, math.MinInt, math.MaxInt} {
		if l, ok := Text(x, kind, []rune("a")); l != nil || ok {
			t.Error(kind, string(l), ok)
		}
	}
}

// Promises 51.1 and 51.3: texts by chance.
func TestAny(t *testing.T) {
	x := ucd.Build(api.Rows())
	chance := rand.New(rand.NewSource(51))
	signs := []rune{'a', 'B', 'e', 'E', ' ', '-', '1', 0xE9, 0xC9, 0x301, 0x323, 0x3C2, 0x3A3, 0x3AC, 0x386, 0x345, 0x451, 0x4E00, 0x212B, 0x600, -1}
	for range 10000 {
		l := make([]rune, chance.Intn(10))
		for i := range l {
			l[i] = signs[chance.Intn(len(signs))]
		}
		turn := func(l []rune, turn func(rune) rune) []rune {
			var out []rune
			for _, r := range decomp.NFD(x, l) {
				out = append(out, turn(r))
			}
			return compose.NFC(x, out)
		}
		up, down := Upper(x, l), Lower(x, l)
		if !slices.Equal(up, turn(l, plainGreat)) || !slices.Equal(down, turn(l, plainSmall)) || !slices.Equal(Upper(x, up), up) || !slices.Equal(Lower(x, down), down) {
			t.Fatalf("%q: %q %q", string(l), string(up), string(down))
		}
		c := compose.NFC(x, l)
		var title []rune
		at := 0
		for _, w := range word.Words(x, c) {
			d := decomp.NFD(x, c[w[0]:w[1]])
			first := slices.IndexFunc(d, func(r rune) bool { return plainGreat(r) != r || plainSmall(r) != r })
			for i, r := range d {
				d[i] = plainSmall(r)
				if i <= first || first < 0 {
					d[i] = plainGreat(r)
				}
			}
			title = slices.Concat(title, c[at:w[0]], compose.NFC(x, d))
			at = w[1]
		}
		title = append(title, c[at:]...)
		if !slices.Equal(Titled(x, l), title) {
			t.Fatalf("%q: %q, not %q", string(l), string(Titled(x, l)), string(title))
		}
		for kind := range 3 {
			a, _ := Text(x, kind, decomp.NFD(x, l))
			if b, _ := Text(x, kind, c); !slices.Equal(a, b) {
				t.Fatalf("%q, %d: %q, %q", string(l), kind, string(a), string(b))
			}
		}
	}
}

// Promise 51.2: a line's words.
func TestWord(t *testing.T) {
	x := ucd.Build(api.Rows())
	for _, want := range []struct {
		s        string
		kind, at int
		out      string
		cursor   int
	}{
		{"one two", Up, 0, "ONE two", 3}, {"one two", Up, 3, "one TWO", 7}, {"one two", Up, 1, "oNE two", 3}, {"ONE TWO", Down, 4, "ONE two", 7}, {"one two", Title, 3, "one Two", 7}, {"one two", Title, 99, "one two", 7}, {"one two", Up, -5, "ONE two", 3}, {"ae\u0301 x", Up, 1, "a\u00C9 x", 2}, {"a \u4E00", Up, 1, "a \u4E00", 3}, {"a,,", Up, 1, "a,,", 3},
	} {
		line := text.New(x, []rune(want.s))
		c, err := Word(x, want.kind, line, want.at)
		if string(line.Runes()) != want.out || c.Cursor != want.cursor || err != api.OK {
			t.Errorf("%q, %d at %d: %q %d %d", want.s, want.kind, want.at, string(line.Runes()), c.Cursor, err)
		}
		if again, ok := c.Edit.Back().Do(line.Runes()); !ok || !slices.Equal(again, compose.NFC(x, []rune(want.s))) {
			t.Errorf("%q: %v", want.s, c.Edit)
		}
	}
	line := text.New(x, []rune("ab"))
	for _, kind := range []int{-1, 3} {
		if c, err := Word(x, kind, line, 0); err != api.ErrArg || c.Cursor != 0 || c.Edit.New != nil || string(line.Runes()) != "ab" {
			t.Error(c, err)
		}
		if _, err := Word(x, kind, nil, 0); err != api.ErrArg {
			t.Error(err)
		}
	}
	if c, err := Word(x, Up, nil, 0); err != api.ErrState || c.Cursor != 0 {
		t.Error(c, err)
	}
}
