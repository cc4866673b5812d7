package ucd

import (
	"math"
	"testing"

	"typebar/api"
)

// first tells the first row of a kind that has a scalar.
func first(l []api.Row, kind int, r rune) api.Row {
	for _, x := range l {
		if x.Kind == kind && x.From <= int(r) && int(r) <= x.To {
			return x
		}
	}
	return api.Row{}
}

// Promises 4.1 to 4.3: all scalars that the table names, and those beside them.
func TestGivenTable(t *testing.T) {
	l := api.Rows()
	x := Build(l)
	for _, row := range l {
		for r := rune(row.From) - 1; r <= rune(row.To)+1 && r < rune(row.From)+300; r++ {
			check(t, x, l, r)
		}
		check(t, x, l, rune(row.To))
		check(t, x, l, rune(row.To)+1)
	}
}

func check(t *testing.T, x *Tables, l []api.Row, r rune) {
	if x.Class(r) != first(l, api.KindClass, r).A || x.Pict(r) != (first(l, api.KindPict, r).A == 1) || x.Wide(r) != (first(l, api.KindWide, r).A == 1) || x.Letter(r) != (first(l, api.KindLetter, r).A == 1) {
		t.Errorf("%x: %d %v %v %v", r, x.Class(r), x.Pict(r), x.Wide(r), x.Letter(r))
	}
	b := first(l, api.KindBreak, r).A
	if r >= 0xAC00 && r <= 0xD7A3 {
		b = api.TripleLVT
		if (r-0xAC00)%28 == 0 {
			b = api.PairLV
		}
	}
	conj := first(l, api.KindConj, r).A
	if conj == 0 && (b == api.Extend || b == api.ZWJ) && r != 0x200C {
		conj = api.Extends
	}
	if x.Break(r) != b || x.Conj(r) != conj {
		t.Errorf("%x: %d %d", r, x.Break(r), x.Conj(r))
	}
	p := first(l, api.KindPair, r)
	a, c, ok := x.Pair(r)
	if ok != (p.A != 0 || p.B != 0) || int(a) != p.A || int(c) != p.B {
		t.Errorf("%x: %x %x %v", r, a, c, ok)
	}
	out := ok && (p.B == 0 || first(l, api.KindOut, r).A == 1 || x.Class(r) != 0 || x.Class(a) != 0)
	if x.Out(r) != out {
		t.Errorf("%x is out: %v", r, x.Out(r))
	}
	if again, is := x.Compose(a, c); ok && !out && (!is || again != r) || is && (a == 0 || c == 0) {
		t.Errorf("%x %x are composed into %x", a, c, again)
	}
}

// Promises 4.3 and 4.4: what two scalars are composed into.
func TestCompose(t *testing.T) {
	x := Build(api.Rows())
	if r, ok := x.Compose(0x65, 0x301); r != 0xE9 || !ok {
		t.Errorf("%x %v", r, ok)
	}
	for _, pair := range [][2]rune{{0x65, 0x3FF}, {0x915, 0x93C}, {0x300, 0}, {0x308, 0x301}, {0, 0}, {-1, math.MaxInt32}, {0x4B, 0}} {
		if r, ok := x.Compose(pair[0], pair[1]); r != 0 || ok {
			t.Errorf("%x: %x %v", pair, r, ok)
		}
	}
	seconds := map[rune]bool{}
	for r := rune(0); r <= api.MaxScalar; r++ {
		a, b, ok := x.Pair(r)
		if ok && !x.Out(r) {
			seconds[b] = true
			if c, is := x.Compose(a, b); !is || c != r {
				t.Errorf("%x", r)
			}
		}
	}
	for r := rune(-1); r <= api.MaxScalar+1; r++ {
		if x.Second(r) != seconds[r] {
			t.Errorf("%x is a second one: %v", r, x.Second(r))
		}
	}
	for _, r := range []rune{0x212B, 0x344, 0x958, 0x340, 0xF73, 0x1D15E} {
		if !x.Out(r) {
			t.Errorf("%x is not out", r)
		}
	}
}

// Promise 4.3: the least one counts, and none that is out.
func TestLeast(t *testing.T) {
	x := Build([]api.Row{
		{Kind: api.KindPair, From: 0x70, To: 0x72, A: 0x41, B: 0x42}, {Kind: api.KindPair, From: 0x50, To: 0x50, A: 0x41, B: 0x42}, {Kind: api.KindOut, From: 0x50, To: 0x50, A: 1},
		{Kind: api.KindClass, From: 0x70, To: 0x70, A: 5}, {Kind: api.KindPair, From: 0x80, To: 0x80, B: 0x42}, {Kind: api.KindOut, From: 0x90, To: 0x90, A: 1}, {Kind: api.KindOut, From: 0x80, To: 0x80, A: 2},
		{Kind: api.KindPict, From: 1, To: 5, A: 2}, {Kind: api.KindWide, From: 3, To: 9, A: 1}, {Kind: api.KindLetter, From: 4, To: 4, A: 1},
	})
	if r, ok := x.Compose(0x41, 0x42); r != 0x71 || !ok {
		t.Errorf("%x %v", r, ok)
	}
	if a, b, ok := x.Pair(0x80); a != 0 || b != 0x42 || !ok || x.Out(0x80) || x.Out(0x90) {
		t.Error("a first one of 0")
	}
	if r, ok := x.Compose(0, 0x42); r != 0x80 || !ok {
		t.Errorf("%x %v", r, ok)
	}
	if x.Pict(1) || x.Wide(2) || !x.Wide(3) || !x.Wide(9) || x.Wide(10) || !x.Letter(4) || x.Letter(3) || x.Letter(5) {
		t.Error("truths")
	}
}

// Promise 4.1 and rule R1: what is no scalar's number, and nil tables.
func TestNothing(t *testing.T) {
	for _, x := range []*Tables{nil, Build(nil), Build([]api.Row{{Kind: api.KindClass, From: math.MinInt, To: -1, A: 1}, {Kind: api.KindClass, From: api.MaxScalar + 1, To: math.MaxInt, A: 1}})} {
		for _, r := range []rune{-1, math.MinInt32, math.MaxInt32, api.MaxScalar + 1, 0x41, 0x301, 0xC5} {
			a, b, ok := x.Pair(r)
			c, is := x.Compose(r, r)
			if x.Class(r) != 0 || a != 0 || b != 0 || ok || x.Out(r) || c != 0 || is || x.Second(r) || x.Break(r) != 0 || x.Conj(r) != 0 || x.Pict(r) || x.Wide(r) || x.Letter(r) {
				t.Errorf("%x has something", r)
			}
		}
		if x.Break(0xAC00) != api.PairLV || x.Break(0xAC01) != api.TripleLVT || x.Break(0xD7A3) != api.TripleLVT || x.Break(0xD7A4) != 0 || x.Break(0xABFF) != 0 {
			t.Error("syllables")
		}
	}
}

// Promise 4.2.
func TestConj(t *testing.T) {
	x := Build(api.Rows())
	for _, want := range []struct {
		r    rune
		conj int
	}{{0x915, api.Consonant}, {0x94D, api.Linker}, {0x301, api.Extends}, {0x200D, api.Extends}, {0x200C, 0}, {0x41, 0}, {0x903, 0}} {
		if c := x.Conj(want.r); c != want.conj {
			t.Errorf("%x: %d", want.r, c)
		}
	}
}
