package quick

import (
	"math"
	"math/rand"
	"slices"
	"testing"

	"typebar/api"
	"typebar/compose"
	"typebar/decomp"
	"typebar/ucd"
)

var some = []rune{0x41, 0x61, 0x65, 0x73, 0xE9, 0x1E69, 0x1EB7, 0x212B, 0x344, 0xF73, 0x300, 0x301, 0x307, 0x323, 0x327, 0x338, 0x345, 0x3B1, 0x313, 0x93C, 0x928, 0x958, 0x9C7, 0x9BE, 0xAC00, 0xAC01, 0x1100, 0x1161, 0x11A8, 0x3099, 0x304B, 0x1D15E, 0x20, 0xD800, -1}

// Promise 8.1.
func TestOfAndCheck(t *testing.T) {
	x := ucd.Build(api.Rows())
	for _, want := range []struct {
		l      []rune
		answer int
	}{
		{nil, Yes}, {[]rune{0x65, 0x301}, Maybe}, {[]rune{0xE9}, Yes}, {[]rune{0x301, 0x327}, No}, {[]rune{0x212B}, No}, {[]rune{0x1161}, Maybe}, {[]rune{0x11A8}, Maybe}, {[]rune{0x11A7}, Yes}, {[]rune{0x9BE}, Maybe},
		{[]rune{0x958}, No}, {[]rune{0x301, 0x61, 0x327}, Maybe}, {[]rune{0x327, 0x301}, Maybe}, {[]rune{0x301, 0x301}, Maybe}, {[]rune{0x301, 0x315, 0x301}, No}, {[]rune{0x34D}, Yes}, {[]rune{0x301, 0x34D}, No},
		{[]rune{0x301, 0x65, 0x212B}, No}, {[]rune{-1, math.MaxInt32}, Yes}, {[]rune{0x344}, No}, {[]rune{0xAC01}, Yes},
	} {
		if a := Check(x, want.l); a != want.answer {
			t.Errorf("%x: %d", want.l, a)
		}
		if len(want.l) == 1 && Of(x, want.l[0]) != want.answer {
			t.Errorf("%x by itself: %d", want.l, Of(x, want.l[0]))
		}
	}
	if Yes != 0 || No != 1 || Maybe != 2 {
		t.Error("numbers")
	}
}

// Promise 8.3.
func TestStable(t *testing.T) {
	x := ucd.Build(api.Rows())
	for _, want := range []struct {
		r  rune
		is bool
	}{{0x65, true}, {0xE9, true}, {0x301, false}, {0x1161, false}, {0x212B, false}, {0xAC01, true}, {0x1100, true}, {0x9BE, false}, {0x34D, false}, {0x958, false}, {-1, true}, {0x20, true}, {0x344, false}} {
		if Stable(x, want.r) != want.is {
			t.Errorf("%x: %v", want.r, Stable(x, want.r))
		}
	}
	if p := Points(x, []rune{0x65, 0x301, 0x1161, 0x41, 0x212B, 0x20}); !slices.Equal(p, []int{0, 3, 5}) {
		t.Error(p)
	}
	if len(Points(x, nil)) != 0 {
		t.Error("points of nothing")
	}
	// A scalar whose first part may be put to what is ahead of it.
	x = ucd.Build([]api.Row{{Kind: api.KindPair, From: 0x50, To: 0x50, A: 0x51, B: 0x52}, {Kind: api.KindPair, From: 0x60, To: 0x60, A: 0x61, B: 0x51}})
	if Stable(x, 0x50) || Of(x, 0x50) != Yes || !Stable(x, 0x60) {
		t.Error("first parts")
	}
}

// Promises 8.2 and 8.4: texts by chance.
func TestAny(t *testing.T) {
	x := ucd.Build(api.Rows())
	chance := rand.New(rand.NewSource(8))
	for range 30000 {
		l := make([]rune, chance.Intn(7))
		for i := range l {
			l[i] = some[chance.Intn(len(some))]
		}
		c := compose.NFC(x, l)
		composed := slices.Equal(l, c)
		if Composed(x, l) != composed || !Composed(x, c) {
			t.Fatalf("%x: %v", l, Composed(x, l))
		}
		if a := Check(x, l); a == Yes && !composed || a == No && composed {
			t.Fatalf("%x: %d", l, a)
		}
		for _, i := range Points(x, l) {
			if parts := append(compose.NFC(x, l[:i]), compose.NFC(x, l[i:])...); !slices.Equal(parts, c) {
				t.Fatalf("%x at %d: %x, not %x", l, i, parts, c)
			}
			if d := append(decomp.NFD(x, l[:i]), decomp.NFD(x, l[i:])...); !slices.Equal(d, decomp.NFD(x, l)) {
				t.Fatalf("%x at %d: %x", l, i, d)
			}
		}
	}
}
