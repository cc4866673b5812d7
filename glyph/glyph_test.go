package glyph

import (
	"math"
	"math/rand"
	"slices"
	"strings"
	"testing"

	"typebar/api"
	"typebar/seg"
	"typebar/ucd"
)

// Promise 13.1.
func TestWidth(t *testing.T) {
	x := ucd.Build(api.Rows())
	for _, want := range []struct {
		c     []rune
		width int
	}{
		{nil, 1}, {[]rune{0x61, 0x301}, 1}, {[]rune{0x4E00}, 2}, {[]rune{0x1F1E6, 0x1F1E7}, 2}, {[]rune{0x1F1E6}, 1}, {[]rune{0x1F1E6, 0x301}, 1}, {[]rune{0x2764}, 1}, {[]rune{0x2764, 0xFE0F}, 2}, {[]rune{0x2764, 0x301, 0xFE0F}, 2}, {[]rune{0x61, 0xFE0F}, 1}, {[]rune{0xFE0F}, 1},
		{[]rune{0x61, 0x200D, 0x4E00}, 2}, {[]rune{0x1F468, 0x200D, 0x1F468}, 2}, {[]rune{0x61, 0x1F1E6, 0x1F1E7}, 1}, {[]rune{-1, math.MaxInt32}, 1}, {[]rune{0xAC00}, 2}, {[]rune{0x1100, 0x1161}, 2},
	} {
		if w := Width(x, want.c); w != want.width {
			t.Errorf("%x: %d", want.c, w)
		}
	}
}

// Promise 13.2.
func TestOf(t *testing.T) {
	x := ucd.Build(api.Rows())
	one := func(s string) Glyph { return Glyph{s, 1} }
	for _, want := range []struct {
		c []rune
		l []Glyph
	}{
		{nil, nil}, {[]rune{1}, []Glyph{one("^"), one("A")}}, {[]rune{0}, []Glyph{one("^"), one("@")}}, {[]rune{0x1F}, []Glyph{one("^"), one("_")}}, {[]rune{0x7F}, []Glyph{one("^"), one("?")}}, {[]rune{0x85}, []Glyph{one("\uFFFD")}},
		{[]rune{0xAD}, []Glyph{one("\uFFFD")}}, {[]rune{0xD, 0xA}, []Glyph{one("^"), one("M"), one("^"), one("J")}}, {[]rune{0x301}, []Glyph{one("\u25CC\u0301")}}, {[]rune{0x600}, []Glyph{one("\u0600\u25CC")}}, {[]rune{0x903}, []Glyph{one("\u25CC\u0903")}}, {[]rune{0x200D}, []Glyph{one("\u25CC\u200D")}},
		{[]rune{0x65, 0x301}, []Glyph{one("e\u0301")}}, {[]rune{0x4E00}, []Glyph{{"\u4E00", 2}}}, {[]rune{0xD800}, []Glyph{one("\uFFFD")}}, {[]rune{-1}, []Glyph{one("\uFFFD")}}, {[]rune{0x600, 0x61}, []Glyph{one("\u0600a")}}, {[]rune{0x1F1E6, 0x1F1E7}, []Glyph{{"\U0001F1E6\U0001F1E7", 2}}},
		{[]rune{0xA, 0x61, -5}, []Glyph{one("^"), one("J"), one("\uFFFD"), one("\uFFFD")}}, {[]rune{0xFE0F}, []Glyph{one("\u25CC\uFE0F")}}, {[]rune{0xA, 0x20}, []Glyph{one("^"), one("J"), one("\uFFFD")}},
	} {
		if l := Of(x, want.c); !slices.Equal(l, want.l) {
			t.Errorf("%x: %v", want.c, l)
		}
	}
	room := make([]rune, 1, 5)
	room[0] = 0x600
	Of(x, room)
	if room[:2][1] != 0 {
		t.Error("what lies behind the cluster was written")
	}
}

var some = []rune{0x61, 0x301, 0xD, 0xA, 0x1, 0x7F, 0x9F, 0x600, 0x903, 0x1100, 0x1161, 0x11A8, 0xAC00, 0xAC01, 0x915, 0x94D, 0x93C, 0x200C, 0x200D, 0x1F468, 0x2764, 0xFE0F, 0x1F1E6, 0x1F3FB, 0xAD, 0xD800, -1, 0x110000, 0x4E00, 0x25CC, 0x20}

// Promises 13.3 and 13.4: texts by chance.
func TestAny(t *testing.T) {
	x := ucd.Build(api.Rows())
	chance := rand.New(rand.NewSource(13))
	for range 30000 {
		l := make([]rune, chance.Intn(9))
		for i := range l {
			l[i] = some[chance.Intn(len(some))]
		}
		glyphs, counts := Line(x, l)
		var want []Glyph
		ahead := []int{0}
		for _, c := range seg.Clusters(x, l) {
			want = append(want, Of(x, c)...)
			ahead = append(ahead, len(want))
		}
		if !slices.Equal(glyphs, want) || !slices.Equal(counts, ahead) {
			t.Fatalf("%x: %v %v", l, glyphs, counts)
		}
		for from := range glyphs {
			var s strings.Builder
			for to := from; to < len(glyphs); to++ {
				s.WriteString(glyphs[to].Text)
				if read := Read(x, s.String()); !slices.Equal(read, glyphs[from:to+1]) {
					t.Fatalf("%x: %v is read as %v", l, glyphs[from:to+1], read)
				}
			}
		}
	}
}

// Promise 13.3: its edges.
func TestRead(t *testing.T) {
	x := ucd.Build(api.Rows())
	if l, counts := Line(x, nil); len(l) != 0 || !slices.Equal(counts, []int{0}) {
		t.Error(l, counts)
	}
	if l := Read(x, ""); len(l) != 0 {
		t.Error(l)
	}
	if l := Read(x, "a\u0301\u4E00\xFF\x01"); !slices.Equal(l, []Glyph{{"a\u0301", 1}, {"\u4E00", 2}, {"\uFFFD", 1}, {"\x01", 1}}) {
		t.Errorf("%v", l)
	}
}
