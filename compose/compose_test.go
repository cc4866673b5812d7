package compose

import (
	"math/rand"
	"slices"
	"testing"

	"typebar/api"
	"typebar/decomp"
	"typebar/hangul"
	"typebar/ucd"
)

var some = []rune{0x41, 0x61, 0x64, 0x65, 0x73, 0xE9, 0x1E69, 0x1EB7, 0x1E0D, 0x212B, 0x344, 0x385, 0xF73, 0x300, 0x301, 0x302, 0x307, 0x323, 0x327, 0x338, 0x345, 0x3B1, 0x313, 0x5B0, 0x93C, 0x928, 0x958, 0x9C7, 0x9BE, 0xAC00, 0xAC01, 0x1100, 0x1161, 0x11A8, 0x3099, 0x304B, 0xFB2C, 0x1D15E, 0x20, 0xD800, -1, 0x110000}

func text(chance *rand.Rand, most int) []rune {
	l := make([]rune, chance.Intn(most))
	for i := range l {
		l[i] = some[chance.Intn(len(some))]
	}
	return l
}

// Promises 7.1 and 7.2: the examples, and others.
func TestExamples(t *testing.T) {
	x := ucd.Build(api.Rows())
	for _, want := range []struct{ l, c []rune }{
		{[]rune{0x65, 0x301}, []rune{0xE9}}, {[]rune{0x73, 0x307, 0x323}, []rune{0x1E69}}, {[]rune{0x61, 0x338, 0x301}, []rune{0xE1, 0x338}}, {[]rune{0x1100, 0x1161, 0x11A8}, []rune{0xAC01}}, {[]rune{0x9C7, 0x9BE}, []rune{0x9CB}},
		{[]rune{0x212B}, []rune{0xC5}}, {[]rune{0x958}, []rune{0x915, 0x93C}}, {[]rune{0x301, 0x65}, []rune{0x301, 0x65}}, {[]rune{0x65, 0x20, 0x301}, []rune{0x65, 0x20, 0x301}}, {[]rune{0x65, 0x301, 0x301}, []rune{0xE9, 0x301}},
		{[]rune{0x9C7, 0x301, 0x9BE}, []rune{0x9C7, 0x301, 0x9BE}}, {[]rune{0x1100, 0x301, 0x1161}, []rune{0x1100, 0x301, 0x1161}}, {[]rune{0xAC00, 0x11A8}, []rune{0xAC01}}, {[]rune{0xAC01, 0x11A8}, []rune{0xAC01, 0x11A8}}, {nil, nil}, {[]rune{-1, 0x301}, []rune{-1, 0x301}},
		{[]rune{0x3B1, 0x345, 0x313, 0x300}, []rune{0x1F02, 0x345}}, {[]rune{0x3B1, 0x313, 0x345}, []rune{0x1F80}},
	} {
		if c := NFC(x, want.l); !slices.Equal(c, want.c) {
			t.Errorf("%x: %x, not %x", want.l, c, want.c)
		}
	}
	// Compose takes nothing apart, and brings nothing into order.
	if c := Compose(x, []rune{0x212B, 0x61, 0x301, 0x323}); !slices.Equal(c, []rune{0x212B, 0xE1, 0x323}) {
		t.Errorf("%x", c)
	}
	if c := Compose(x, []rune{0x61, 0x338, 0x334, 0x301}); !slices.Equal(c, []rune{0xE1, 0x338, 0x334}) {
		t.Errorf("%x", c)
	}
	if c := Compose(x, []rune{0x61, 0x315, 0x301}); !slices.Equal(c, []rune{0x61, 0x315, 0x301}) {
		t.Errorf("a mark of a higher class lies between: %x", c)
	}
	if c := NFC(nil, []rune{0x65, 0x301, 0x1100, 0x1161}); !slices.Equal(c, []rune{0x65, 0x301, 0xAC00}) {
		t.Errorf("%x", c)
	}
}

// plain composes as the promise says it, looking for the starter anew each time.
func plain(x *ucd.Tables, l []rune) []rune {
	var out []rune
	for _, c := range l {
		at := len(out) - 1
		for at >= 0 && x.Class(out[at]) != 0 {
			at--
		}
		if at >= 0 && (at == len(out)-1 || x.Class(out[len(out)-1]) < x.Class(c)) {
			r, ok := hangul.Join(out[at], c)
			if !ok {
				r, ok = x.Compose(out[at], c)
			}
			if ok {
				out[at] = r
				continue
			}
		}
		out = append(out, c)
	}
	return out
}

// Promises 7.1 to 7.3: texts by chance.
func TestAny(t *testing.T) {
	x := ucd.Build(api.Rows())
	chance := rand.New(rand.NewSource(7))
	for range 30000 {
		l := text(chance, 9)
		kept := slices.Clone(l)
		c := NFC(x, l)
		if !slices.Equal(Compose(x, l), plain(x, l)) || !slices.Equal(c, plain(x, decomp.NFD(x, l))) || !slices.Equal(l, kept) {
			t.Fatalf("%x: %x, %x", l, Compose(x, l), c)
		}
		if !slices.Equal(NFC(x, c), c) || !decomp.Equal(x, c, l) || !slices.Equal(NFC(x, decomp.NFD(x, l)), c) {
			t.Fatalf("%x: %x", l, c)
		}
		from := chance.Intn(len(c) + 1)
		part := c[from : from+chance.Intn(len(c)-from+1)]
		if !slices.Equal(NFC(x, part), part) {
			t.Fatalf("%x, which is a part of %x, is not composed", part, c)
		}
		if m := text(chance, 4); decomp.Equal(x, l, m) != slices.Equal(c, NFC(x, m)) {
			t.Fatalf("%x, %x", l, m)
		}
	}
}

// Promise 7.1, of tables by which a composed scalar is a mark.
func TestOddTables(t *testing.T) {
	x := ucd.Build([]api.Row{{Kind: api.KindClass, From: 0xAC00, To: 0xAC00, A: 5}, {Kind: api.KindClass, From: 0x301, To: 0x301, A: 230}, {Kind: api.KindPair, From: 0xE9, To: 0xE9, A: 0x65, B: 0x301}})
	l := []rune{0x65, 0x1100, 0x1161, 0x301}
	if c := Compose(x, l); !slices.Equal(c, plain(x, l)) {
		t.Errorf("%x", c)
	}
}
