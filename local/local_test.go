package local

import (
	"math"
	"math/rand"
	"slices"
	"testing"

	"typebar/api"
	"typebar/compose"
	"typebar/quick"
	"typebar/ucd"
)

var some = []rune{0x41, 0x61, 0x65, 0x73, 0xE9, 0x1E69, 0x1EB7, 0x212B, 0x344, 0xF73, 0x300, 0x301, 0x307, 0x323, 0x327, 0x338, 0x345, 0x3B1, 0x313, 0x93C, 0x928, 0x958, 0x9C7, 0x9BE, 0xAC00, 0xAC01, 0x1100, 0x1161, 0x11A8, 0x3099, 0x304B, 0x1D15E, 0x20, 0xD800, -1}

func text(chance *rand.Rand, most int) []rune {
	l := make([]rune, chance.Intn(most))
	for i := range l {
		l[i] = some[chance.Intn(len(some))]
	}
	return l
}

// Promise 9.1: the examples.
func TestSplice(t *testing.T) {
	x := ucd.Build(api.Rows())
	for _, want := range []struct {
		text     []rune
		from, to int
		ins, out []rune
		w        Window
	}{
		{[]rune{0x61, 0x65, 0x62}, 2, 2, []rune{0x301}, []rune{0x61, 0xE9, 0x62}, Window{1, 2, 2}},
		{nil, 0, 0, nil, nil, Window{}},
		{nil, 0, 0, []rune{0x65, 0x301}, []rune{0xE9}, Window{0, 0, 1}},
		{[]rune{0x61, 0x62, 0x63}, 1, 2, nil, []rune{0x61, 0x63}, Window{0, 2, 1}},
		{[]rune{0x61, 0x62, 0x301}, 1, 2, nil, []rune{0xE1}, Window{0, 3, 1}},
		{[]rune{0x301, 0x302, 0x61}, 1, 1, []rune{0x303}, []rune{0x301, 0x303, 0x302, 0x61}, Window{0, 2, 3}},
		{[]rune{0x1100, 0x20, 0x1161, 0x11A8, 0x78}, 1, 2, nil, []rune{0xAC01, 0x78}, Window{0, 4, 1}},
		{[]rune{0x61, 0x62, 0x63, 0x64}, 2, 3, []rune{0x62}, []rune{0x61, 0x62, 0x62, 0x64}, Window{1, 3, 3}},
	} {
		out, w, err := Splice(x, want.text, want.from, want.to, want.ins)
		if !slices.Equal(out, want.out) || w != want.w || err != api.OK {
			t.Errorf("%x, %d, %d, %x: %x %v %d", want.text, want.from, want.to, want.ins, out, w, err)
		}
	}
	for _, at := range [][2]int{{-1, 1}, {0, 4}, {2, 1}, {math.MinInt, math.MaxInt}, {4, 4}, {math.MaxInt, math.MaxInt}} {
		if out, w, err := Splice(x, []rune{0x61, 0x62, 0x63}, at[0], at[1], []rune{0x64}); out != nil || w != (Window{}) || err != api.ErrRange {
			t.Errorf("%v: %x %v %d", at, out, w, err)
		}
	}
}

// Promises 9.1 and 9.3: texts by chance.
func TestAny(t *testing.T) {
	x := ucd.Build(api.Rows())
	chance := rand.New(rand.NewSource(9))
	for range 30000 {
		was := compose.NFC(x, text(chance, 9))
		ins := text(chance, 4)
		from := chance.Intn(len(was) + 1)
		to := from + chance.Intn(len(was)-from+1)
		kept, keptIns := slices.Clone(was), slices.Clone(ins)
		out, w, err := Splice(x, was, from, to, ins)
		if want := compose.NFC(x, slices.Concat(was[:from], ins, was[to:])); !slices.Equal(out, want) || err != api.OK {
			t.Fatalf("%x, %d, %d, %x: %x, not %x", was, from, to, ins, out, want)
		}
		if !slices.Equal(was, kept) || !slices.Equal(ins, keptIns) {
			t.Fatal("an argument was changed")
		}
		points := quick.Points(x, was)
		first, end := 0, len(was)
		for _, p := range points {
			if p < from {
				first = p
			}
		}
		for _, p := range slices.Backward(points) {
			if p >= to {
				end = p
			}
		}
		if w.From != first || w.Was != end || !slices.Equal(out[:w.From], was[:w.From]) || !slices.Equal(out[w.Is:], was[w.Was:]) {
			t.Fatalf("%x, %d, %d, %x: %v", was, from, to, ins, w)
		}
		narrow(t, was, out, w)
	}
}

// narrow tests promise 9.2.
func narrow(t *testing.T, was, is []rune, w Window) {
	n := Narrow(was, is, w)
	front := 0
	for w.From+front < w.Was && w.From+front < w.Is && was[w.From+front] == is[w.From+front] {
		front++
	}
	back := 0
	for w.Was-back > w.From+front && w.Is-back > w.From+front && was[w.Was-back-1] == is[w.Is-back-1] {
		back++
	}
	if n != (Window{w.From + front, w.Was - back, w.Is - back}) {
		t.Fatalf("%x, %x, %v: %v", was, is, w, n)
	}
}

// Promise 9.2: its edges.
func TestNarrow(t *testing.T) {
	a, b := []rune{1, 2, 2, 3}, []rune{1, 2, 3}
	for _, want := range []struct{ w, n Window }{
		{Window{0, 4, 3}, Window{2, 3, 2}}, {Window{1, 4, 3}, Window{2, 3, 2}}, {Window{2, 3, 2}, Window{2, 3, 2}}, {Window{-1, 3, 2}, Window{-1, 3, 2}}, {Window{0, 5, 3}, Window{0, 5, 3}}, {Window{0, 4, 4}, Window{0, 4, 4}},
		{Window{3, 2, 3}, Window{3, 2, 3}}, {Window{math.MinInt, math.MaxInt, 0}, Window{math.MinInt, math.MaxInt, 0}},
	} {
		if n := Narrow(a, b, want.w); n != want.n {
			t.Errorf("%v: %v", want.w, n)
		}
	}
	if n := Narrow(a, a, Window{0, 4, 4}); n != (Window{4, 4, 4}) {
		t.Error(n)
	}
	if n := Narrow(nil, nil, Window{}); n != (Window{}) {
		t.Error(n)
	}
}
