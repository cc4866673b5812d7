package decomp

import (
	"math"
	"math/rand"
	"slices"
	"testing"

	"typebar/api"
	"typebar/ucd"
)

// some are scalars that matter to normal forms, and some that do not.
var some = []rune{0x41, 0x61, 0x64, 0x73, 0xE9, 0x1E69, 0x1EB7, 0x1E0D, 0x212B, 0x344, 0x385, 0xF73, 0x300, 0x301, 0x307, 0x323, 0x327, 0x338, 0x345, 0x5B0, 0x93C, 0x958, 0x9C7, 0x9BE, 0xAC00, 0xAC01, 0x1100, 0x1161, 0x11A8, 0x3099, 0x304B, 0xFB2C, 0x1D15E, 0x20, 0xD800, -1, 0x110000}

// Promise 6.1.
func TestFull(t *testing.T) {
	x := ucd.Build(api.Rows())
	for _, want := range []struct {
		r rune
		l []rune
	}{
		{0x1EB7, []rune{0x61, 0x323, 0x306}}, {0xAC01, []rune{0x1100, 0x1161, 0x11A8}}, {0xAC00, []rune{0x1100, 0x1161}}, {0x212B, []rune{0x41, 0x30A}}, {0x61, []rune{0x61}}, {0xFB2C, []rune{0x5E9, 0x5BC, 0x5C1}},
		{0x1F71, []rune{0x3B1, 0x301}}, {-1, []rune{-1}}, {0xD800, []rune{0xD800}}, {0x344, []rune{0x308, 0x301}}, {math.MaxInt32, []rune{math.MaxInt32}},
	} {
		if l := Full(x, want.r); !slices.Equal(l, want.l) {
			t.Errorf("%x: %x", want.r, l)
		}
	}
	// Tables by which each scalar is taken apart for ever.
	for _, second := range []int{0, 0x41} {
		x = ucd.Build([]api.Row{{Kind: api.KindPair, From: 0x41, To: 0x41, A: 0x41, B: second}})
		if l := Full(x, 0x41); len(l) == 0 || len(l) > 1<<Deep || second == 0 && !slices.Equal(l, []rune{0x41}) {
			t.Errorf("%x", l)
		}
	}
	// A chain of scalars, each of which is the next one.
	var chain []api.Row
	for i := range 20 {
		chain = append(chain, api.Row{Kind: api.KindPair, From: 0x100 + i, To: 0x100 + i, A: 0x101 + i})
	}
	if l := Full(ucd.Build(chain), 0x100); !slices.Equal(l, []rune{0x108}) {
		t.Errorf("%x", l)
	}
	if l := Full(nil, 0xE9); !slices.Equal(l, []rune{0xE9}) {
		t.Errorf("%x", l)
	}
}

// plain orders marks by changing places of neighbours.
func plain(x *ucd.Tables, l []rune) []rune {
	l = slices.Clone(l)
	for range l {
		for i := 1; i < len(l); i++ {
			if a, b := x.Class(l[i-1]), x.Class(l[i]); b != 0 && a > b {
				l[i-1], l[i] = l[i], l[i-1]
			}
		}
	}
	return l
}

// Promises 6.2 to 6.4: texts by chance.
func TestAny(t *testing.T) {
	x := ucd.Build(api.Rows())
	chance := rand.New(rand.NewSource(6))
	for range 20000 {
		l := make([]rune, chance.Intn(9))
		for i := range l {
			l[i] = some[chance.Intn(len(some))]
		}
		kept := slices.Clone(l)
		ordered := Order(x, l)
		var parts []rune
		for _, r := range l {
			parts = append(parts, Full(x, r)...)
		}
		d := NFD(x, l)
		if !slices.Equal(ordered, plain(x, l)) || !slices.Equal(d, plain(x, parts)) {
			t.Fatalf("%x: %x, %x", l, ordered, d)
		}
		at := chance.Intn(len(l) + 1)
		if again := NFD(x, append(NFD(x, l[:at]), NFD(x, l[at:])...)); !slices.Equal(again, d) || !slices.Equal(NFD(x, d), d) {
			t.Fatalf("%x: %x, in parts %x", l, d, again)
		}
		if !Equal(x, l, d) || Equal(x, l, append(d, 0x62)) || !slices.Equal(kept, l) {
			t.Fatalf("%x is not equivalent to its NFD", l)
		}
	}
}

// Promises 6.2 and 6.3: the examples, and nothing.
func TestExamples(t *testing.T) {
	x := ucd.Build(api.Rows())
	if l := NFD(x, []rune{0x61, 0x306, 0x323}); !slices.Equal(l, []rune{0x61, 0x323, 0x306}) {
		t.Errorf("%x", l)
	}
	if l := Order(x, []rune{0x301, 0x300, 0x323, 0x41, 0x315, 0x314}); !slices.Equal(l, []rune{0x323, 0x301, 0x300, 0x41, 0x314, 0x315}) {
		t.Errorf("%x", l)
	}
	if l := Order(x, []rune{0xE9, 0xAC00}); !slices.Equal(l, []rune{0xE9, 0xAC00}) {
		t.Errorf("Order takes apart: %x", l)
	}
	if len(NFD(x, nil)) != 0 || len(Order(x, nil)) != 0 || !Equal(x, nil, []rune{}) || Equal(x, nil, []rune{0}) || Equal(x, []rune{0x65}, []rune{0xE9}) {
		t.Error("nothing")
	}
}

// Rule R1: a great many marks come to an end.
func TestManyMarks(t *testing.T) {
	x := ucd.Build(api.Rows())
	l := make([]rune, 300000)
	for i := range l {
		l[i] = some[12+i%6]
	}
	if d := NFD(x, l); len(d) != len(l) || x.Class(d[0]) != 1 {
		t.Error(len(d))
	}
}
