package hangul

import (
	"math"
	"slices"
	"testing"
)

// Promises 5.1 and 5.3: all syllables.
func TestSplit(t *testing.T) {
	for _, x := range []struct {
		r rune
		l []rune
	}{{0xAC00, []rune{0x1100, 0x1161}}, {0xAC01, []rune{0x1100, 0x1161, 0x11A8}}, {0xAC1C, []rune{0x1100, 0x1162}}, {0xAE4C, []rune{0x1101, 0x1161}}, {0xD7A3, []rune{0x1112, 0x1175, 0x11C2}}, {0xABFF, nil}, {0xD7A4, nil}, {0x1100, nil}, {-1, nil}, {math.MaxInt32, nil}, {math.MinInt32, nil}} {
		if l := Split(x.r); !slices.Equal(l, x.l) || Syllable(x.r) != (x.l != nil) {
			t.Errorf("%x: %x", x.r, l)
		}
	}
	for r := rune(0xAC00); r <= 0xD7A3; r++ {
		l := Split(r)
		joined, ok := Join(l[0], l[1])
		if ok && len(l) == 3 {
			joined, ok = Join(joined, l[2])
		}
		if !Syllable(r) || !ok || joined != r || len(l) < 2 || cap(l) != len(l) {
			t.Fatalf("%x: %x, %x", r, l, joined)
		}
	}
}

// Promises 5.2 and 5.3: whatever is joined is split as it was, and nothing else is joined.
func TestJoin(t *testing.T) {
	edges := []rune{-1, 0, math.MinInt32, math.MaxInt32, 0x10FF, 0x1100, 0x1112, 0x1113, 0x1160, 0x1161, 0x1175, 0x1176, 0x11A7, 0x11A8, 0x11C2, 0x11C3, 0xABFF, 0xAC00, 0xAC01, 0xAC1B, 0xAC1C, 0xD788, 0xD7A3, 0xD7A4}
	for _, a := range edges {
		for _, b := range edges {
			leadVowel := a >= 0x1100 && a <= 0x1112 && b >= 0x1161 && b <= 0x1175
			tailed := len(Split(a)) == 2 && b >= 0x11A8 && b <= 0x11C2
			r, ok := Join(a, b)
			if ok != (leadVowel || tailed) || !ok && r != 0 {
				t.Errorf("%x %x: %x %v", a, b, r, ok)
			}
			if want := append(Split(a), b); ok && tailed && !slices.Equal(Split(r), want) || ok && leadVowel && !slices.Equal(Split(r), []rune{a, b}) {
				t.Errorf("%x %x: %x, which is %x", a, b, r, Split(r))
			}
		}
		second := a >= 0x1161 && a <= 0x1175 || a >= 0x11A8 && a <= 0x11C2
		if Second(a) != second {
			t.Errorf("%x: %v", a, Second(a))
		}
	}
}
