package units

import (
	"math"
	"math/rand"
	"slices"
	"strings"
	"testing"
	"unicode/utf16"

	"typebar/api"
	"typebar/glyph"
	"typebar/seg"
	"typebar/ucd"
	"typebar/utf"
)

var some = []rune{'a', 'b', ' ', 0xE9, 0x301, 0x20AC, 0x4E00, 0xFFFF, 0x10000, 0x1F600, 0x1F1E6, 0x1F1E7, 0x600, 1, 0xD, 0xA, 0x9F, 0xD800, -1, 0x110000, math.MaxInt32}

// places tells all places of a text, each counted by itself.
func places(x *ucd.Tables, l []rune) []Pos {
	starts := seg.Starts(x, l)
	var out []Pos
	for at := range len(l) + 1 {
		p := Pos{Scalars: at}
		for i, r := range l[:at] {
			p[Bytes] += utf.Size(r)
			p[Units] += max(utf16.RuneLen(r), 1)
			if slices.Contains(starts, i) {
				p[Clusters]++
			}
		}
		end := 0
		for _, c := range seg.Clusters(x, l) {
			if end += len(c); end <= at {
				for _, g := range glyph.Of(x, c) {
					p[Columns] += g.Width
				}
			}
		}
		out = append(out, p)
	}
	return out
}

// Promises 41.1, 41.2 and 41.4: texts by chance.
func TestAny(t *testing.T) {
	x := ucd.Build(api.Rows())
	chance := rand.New(rand.NewSource(41))
	for range 2000 {
		l := make([]rune, chance.Intn(10))
		for i := range l {
			l[i] = some[chance.Intn(len(some))]
		}
		want := places(x, l)
		m := Of(x, l)
		if m.Len() != want[len(l)] {
			t.Fatalf("%x: %v, not %v", l, m.Len(), want[len(l)])
		}
		for kind := -1; kind < 6; kind++ {
			for n := -2; n < m.Len()[Bytes]+3; n++ {
				is := kind >= 0 && kind < 5
				var p Pos
				for _, q := range want {
					if is && q[kind] <= n {
						p = q
					}
				}
				if at, ok := m.At(kind, n); at != p || ok != is {
					t.Fatalf("%x, %d of %d: %v, not %v", l, n, kind, at, p)
				}
				to := chance.Intn(7) - 1
				n2, ok := m.Turn(kind, n, to)
				if good := is && to >= 0 && to < 5; ok != good || good && n2 != p[to] || !good && n2 != 0 {
					t.Fatalf("%x, %d of %d as %d: %d %v", l, n, kind, to, n2, ok)
				}
			}
		}
		for _, p := range want {
			if a, _ := m.Turn(Bytes, p[Bytes], Scalars); a != p[Scalars] {
				t.Fatalf("%x: %v", l, p)
			}
			if a, _ := m.Turn(Units, p[Units], Scalars); a != p[Scalars] {
				t.Fatalf("%x: %v", l, p)
			}
		}
	}
}

// Promises 41.1 and 41.2: the example, and nothing.
func TestExample(t *testing.T) {
	x := ucd.Build(api.Rows())
	m := Of(x, []rune{0x61, 0x1F600, 0x62})
	if p, ok := m.At(Scalars, 2); p != (Pos{2, 5, 3, 2, 3}) || !ok {
		t.Error(p, ok)
	}
	if p, ok := m.At(Bytes, 4); p != (Pos{1, 1, 1, 1, 1}) || !ok {
		t.Error(p, ok)
	}
	for n, want := range map[int]Pos{math.MinInt: {}, math.MaxInt: {3, 6, 4, 3, 4}} {
		if p, ok := m.At(Columns, n); p != want || !ok {
			t.Error(p, ok)
		}
	}
	var none Map
	if p, ok := none.At(Units, 5); none.Len() != (Pos{}) || p != (Pos{}) || !ok || Of(x, nil).Len() != (Pos{}) {
		t.Error("the map of nothing")
	}
	if p, ok := none.At(5, 5); p != (Pos{}) || ok {
		t.Error(p, ok)
	}
}

// Promise 41.3.
func TestTabs(t *testing.T) {
	x := ucd.Build(api.Rows())
	for _, want := range []struct {
		s    string
		stop int
		out  string
	}{
		{"", 8, ""}, {"\t", 8, "        "}, {"a\tb", 8, "a       b"}, {"abcd\tx", 4, "abcd    x"}, {"abc\tx", 4, "abc x"}, {"\u4E00\tx", 4, "\u4E00  x"}, {"e\u0301\tx", 4, "e\u0301   x"}, {"ab\n\tx", 4, "ab\n    x"}, {"a\n\tx", 4, "a\n    x"}, {"a\r\tx", 4, "a\r    x"}, {"ab\r\n\tx", 4, "ab\r\n    x"}, {"ab\r\tx", 4, "ab\r    x"}, {"\x01\tx", 4, "\x01  x"}, {"a\t\tb", 2, "a   b"}, {"a\tb", 1, "a b"}, {"\t\u0301", 2, "  \u0301"}, {"a\v\tb", 4, "a\v b"}, {"\u0301\t", 3, "\u0301  "},
	} {
		if l, err := Tabs(x, []rune(want.s), want.stop); string(l) != want.out || err != api.OK {
			t.Errorf("%q by %d: %q %d", want.s, want.stop, string(l), err)
		}
	}
	for _, stop := range []int{0, -1, api.MaxCols + 1, math.MinInt, math.MaxInt} {
		if l, err := Tabs(x, []rune("a\t"), stop); l != nil || err != api.ErrArg {
			t.Error(stop, err)
		}
	}
	if l, err := Tabs(x, []rune(strings.Repeat("\t", 65)+strings.Repeat("a", 536)), api.MaxCols); len(l) != 65536 || err != api.OK {
		t.Error(len(l), err)
	}
	if l, err := Tabs(x, []rune(strings.Repeat("\t", 65)+strings.Repeat("a", 537)), api.MaxCols); l != nil || err != api.ErrFull {
		t.Error(len(l), err)
	}
}
