package bind

import (
	"math"
	"testing"

	"typebar/api"
)

// Promise 23.1.
func TestOf(t *testing.T) {
	for _, x := range []struct {
		prefix bool
		k      api.Key
		s      Stroke
	}{
		{false, api.Key{Kind: api.KeyChar, Rune: 'a', Meta: true}, Stroke{Kind: api.KeyChar, Rune: 'a', Meta: true}},
		{true, api.Key{Kind: api.KeyCtrl, Rune: 24, Text: []rune{1}}, Stroke{Prefix: true, Kind: api.KeyCtrl, Rune: 24}},
		{true, api.Key{Kind: api.KeyPaste, Rune: 5, Meta: true, Text: []rune{1}}, Stroke{Kind: api.KeyPaste}},
		{false, api.Key{Kind: api.KeyOdd}, Stroke{Kind: api.KeyOdd}}, {true, api.Key{}, Stroke{Prefix: true}}, {false, api.Key{Kind: -3, Rune: math.MinInt32}, Stroke{Kind: -3, Rune: math.MinInt32}},
	} {
		if s := Of(x.prefix, x.k); s != x.s {
			t.Errorf("%v: %v", x.k, s)
		}
	}
}

// usual tells what the chapter lists.
func usual(s Stroke) int {
	type plain struct {
		kind int
		r    rune
		meta bool
	}
	k := plain{s.Kind, s.Rune, s.Meta}
	if s.Kind == api.KeyPaste {
		return 32
	}
	if s.Prefix {
		return map[plain]int{{2, 24, false}: 18, {2, 21, false}: 21, {1, 'u', false}: 21, {2, 7, false}: 26}[k]
	}
	l := map[plain]int{
		{3, 1, false}: 22, {3, 2, false}: 23, {3, 3, false}: 3, {3, 4, false}: 4, {3, 5, false}: 7, {3, 6, false}: 8, {3, 8, false}: 9, {2, 127, true}: 12, {2, 8, true}: 12,
		{1, '-', true}: 30, {1, 'b', true}: 6, {1, 'f', true}: 5, {1, 'd', true}: 11, {1, 'w', true}: 16, {1, 'y', true}: 20,
	}
	for r := '0'; r <= '9'; r++ {
		l[plain{1, r, true}] = 29
	}
	for r, c := range map[rune]int{0: 17, 1: 7, 2: 4, 4: 9, 5: 8, 6: 3, 7: 26, 8: 10, 127: 10, 10: 2, 13: 2, 11: 13, 12: 27, 14: 23, 16: 22, 17: 28, 18: 24, 19: 25, 20: 31, 21: 14, 23: 15, 24: 33, 25: 19, 31: 21} {
		l[plain{2, r, false}] = c
	}
	if s.Kind == api.KeyChar && !s.Meta {
		return 1
	}
	return l[k]
}

// Promises 23.2 and 23.3: all strokes, of a map that has what is usual, and of one that has one stroke more.
func TestLook(t *testing.T) {
	var m Map
	own := Stroke{Kind: api.KeyCtrl, Rune: 24, Prefix: true}
	n := m.With(own, 99)
	for _, prefix := range []bool{false, true} {
		for kind := -1; kind < 8; kind++ {
			for r := rune(-3); r < 300; r++ {
				for _, meta := range []bool{false, true} {
					s := Stroke{prefix, kind, r, meta}
					if m.Look(s) != usual(s) {
						t.Fatalf("%v: %d, not %d", s, m.Look(s), usual(s))
					}
					if c := n.Look(s); s == own && c != 99 || s != own && c != usual(s) {
						t.Fatalf("%v: %d", s, c)
					}
				}
			}
		}
	}
}

// Promise 23.3: what was said last holds, and the map that it was said to stays.
func TestWith(t *testing.T) {
	var m Map
	a := Stroke{Kind: api.KeyChar, Rune: 'a'}
	b := Stroke{Kind: api.KeyPaste}
	n := m.With(a, Undo)
	o := n.With(a, None).With(b, -7)
	p := n.With(b, Yank)
	if m.Look(a) != Put || n.Look(a) != Undo || o.Look(a) != None || o.Look(b) != -7 || n.Look(b) != Paste || p.Look(b) != Yank || p.Look(a) != Undo || p.Look(Stroke{Prefix: true, Kind: api.KeyPaste}) != Paste {
		t.Error("maps")
	}
	if Prefix != 33 || Put != 1 || Quote != 28 || None != 0 {
		t.Error("numbers")
	}
}
