package find

import (
	"math"
	"math/rand"
	"slices"
	"testing"

	"typebar/api"
	"typebar/compose"
	"typebar/decomp"
	"typebar/ucd"
)

var some = []rune{0x61, 0x65, 0x78, 0xE9, 0x1EB7, 0x1EA1, 0x103, 0x301, 0x306, 0x323, 0xAC00, 0xAC01, 0x1100, 0x1161, 0x11A8, 0x212B, 0xC5, 0x41, 0x30A, -1}

func text(chance *rand.Rand, most int) []rune {
	l := make([]rune, chance.Intn(most))
	for i := range l {
		l[i] = some[chance.Intn(len(some))]
	}
	return l
}

// plain looks for a pattern in all parts, the first ones first.
func plain(x *ucd.Tables, l, pattern []rune) (int, int, bool) {
	for from := range len(l) + 1 {
		for to := from; to <= len(l); to++ {
			if decomp.Equal(x, l[from:to], pattern) {
				return from, to, true
			}
		}
	}
	return 0, 0, false
}

// Promises 21.1, 21.3 and 21.4: texts by chance.
func TestAny(t *testing.T) {
	x := ucd.Build(api.Rows())
	chance := rand.New(rand.NewSource(21))
	for round := range 20000 {
		l, pattern := text(chance, 9), text(chance, 4)
		if round%2 == 0 && len(l) > 0 {
			from := chance.Intn(len(l))
			pattern = l[from : from+chance.Intn(min(4, len(l)-from+1))]
		}
		from, to, ok := Find(x, l, pattern)
		a, b, is := plain(x, l, pattern)
		if from != a || to != b || ok != is || Has(x, l, pattern) != is {
			t.Fatalf("%x in %x: %d %d %v, not %d %d %v", pattern, l, from, to, ok, a, b, is)
		}
		if c, d, again := Find(x, l, decomp.NFD(x, pattern)); c != from || d != to || again != ok {
			t.Fatalf("%x in %x, taken apart: %d %d %v", pattern, l, c, d, again)
		}
		if c, d, again := Find(x, l, compose.NFC(x, pattern)); c != from || d != to || again != ok {
			t.Fatalf("%x in %x, composed: %d %d %v", pattern, l, c, d, again)
		}
		var want [][2]int
		var put []rune
		at, with := 0, text(chance, 3)
		for len(pattern) > 0 {
			from, to, ok := plain(x, l[at:], pattern)
			if !ok {
				break
			}
			want = append(want, [2]int{at + from, at + to})
			put = slices.Concat(put, l[at:at+from], with)
			at += to
		}
		if all := All(x, l, pattern); !slices.Equal(all, want) {
			t.Fatalf("%x in %x: %v, not %v", pattern, l, all, want)
		}
		out, n := Replace(x, l, pattern, with)
		if !slices.Equal(out, compose.NFC(x, append(put, l[at:]...))) || n != len(want) {
			t.Fatalf("%x in %x by %x: %x %d", pattern, l, with, out, n)
		}
	}
}

// Promises 21.1 and 21.3: the examples, and nothing.
func TestExamples(t *testing.T) {
	x := ucd.Build(api.Rows())
	for _, want := range []struct {
		l, pattern []rune
		from, to   int
		ok         bool
	}{
		{[]rune{0x78, 0xE9, 0x79}, []rune{0x65, 0x301}, 1, 2, true}, {[]rune{0x78, 0x65, 0x301}, []rune{0xE9}, 1, 3, true}, {[]rune{0xE9}, []rune{0x65}, 0, 0, false}, {nil, nil, 0, 0, true}, {[]rune{0x61}, nil, 0, 0, true}, {nil, []rune{0x61}, 0, 0, false},
		{[]rune{0x61, 0x306, 0x323}, []rune{0x1EB7}, 0, 3, true}, {[]rune{0x65, 0x301, 0x65}, []rune{0x65}, 0, 1, true},
	} {
		if from, to, ok := Find(x, want.l, want.pattern); from != want.from || to != want.to || ok != want.ok {
			t.Errorf("%x in %x: %d %d %v", want.pattern, want.l, from, to, ok)
		}
	}
	if len(All(x, []rune{0x61}, nil)) != 0 {
		t.Error("all parts that are nothing")
	}
	if out, n := Replace(x, []rune{0x65, 0x301}, nil, []rune{0x78}); n != 0 || !slices.Equal(out, []rune{0xE9}) {
		t.Errorf("%x %d", out, n)
	}
}

// Promise 21.2.
func TestNearest(t *testing.T) {
	x := ucd.Build(api.Rows())
	l := [][]rune{{}, {0x63, 0xE9}, {0x61, 0x62}, {0x65, 0x301}}
	for _, want := range []struct {
		at, step int
		pattern  []rune
		n, from  int
		ok       bool
	}{
		{0, 1, []rune{0xE9}, 1, 1, true}, {2, 1, []rune{0xE9}, 3, 0, true}, {2, -1, []rune{0x65, 0x301}, 1, 1, true}, {1, 0, []rune{0xE9}, 1, 1, true}, {2, 0, []rune{0xE9}, 0, 0, false}, {2, math.MaxInt, []rune{0x63}, 0, 0, false}, {3, math.MinInt, []rune{0x63}, 1, 0, true},
		{-1, 1, []rune{0x63}, 0, 0, false}, {4, -1, []rune{0x63}, 0, 0, false}, {math.MinInt, 0, nil, 0, 0, false}, {2, 1, nil, 2, 0, true}, {0, 1, []rune{0x7A}, 0, 0, false},
	} {
		if n, from, ok := Nearest(x, l, want.at, want.step, want.pattern); n != want.n || from != want.from || ok != want.ok {
			t.Errorf("from %d, %d, %x: %d %d %v", want.at, want.step, want.pattern, n, from, ok)
		}
	}
}

// Rule R1: long texts come to an end.
func TestLong(t *testing.T) {
	x := ucd.Build(api.Rows())
	l := slices.Repeat([]rune{0x61}, 200000)
	if n := len(All(x, l, []rune{0x61})); n != 200000 {
		t.Error(n)
	}
	if Has(x, l, append(slices.Repeat([]rune{0x61}, 100000), 0x62)) {
		t.Error("it is found")
	}
}
