package seg

import (
	"math"
	"math/rand"
	"slices"
	"testing"

	"typebar/api"
	"typebar/ucd"
)

var some = []rune{0x61, 0x41, 0x301, 0xD, 0xA, 0x1, 0x600, 0x903, 0x1100, 0x1161, 0x11A8, 0xAC00, 0xAC01, 0x915, 0x916, 0x94D, 0x93C, 0x200C, 0x200D, 0x1F468, 0x2764, 0xFE0F, 0x1F1E6, 0x1F1E7, 0x1F3FB, 0xAD, 0xD800, -1, 0x110000}

func text(chance *rand.Rand, most int) []rune {
	l := make([]rune, chance.Intn(most))
	for i := range l {
		l[i] = some[chance.Intn(len(some))]
	}
	return l
}

// begins tells whether a cluster begins at a place, as the rules say it, looking back from there.
func begins(x *ucd.Tables, l []rune, i int) bool {
	if i == 0 {
		return true
	}
	a, b := x.Break(l[i-1]), x.Break(l[i])
	one := func(v int, of ...int) bool { return slices.Contains(of, v) }
	switch {
	case a == api.CR && b == api.LF:
		return false
	case one(a, api.Control, api.CR, api.LF), one(b, api.Control, api.CR, api.LF):
		return true
	case a == api.LeadL && one(b, api.LeadL, api.VowelV, api.PairLV, api.TripleLVT):
		return false
	case one(a, api.PairLV, api.VowelV) && one(b, api.VowelV, api.TailT):
		return false
	case one(a, api.TripleLVT, api.TailT) && b == api.TailT:
		return false
	case one(b, api.Extend, api.ZWJ, api.Mark), a == api.Prepend:
		return false
	}
	if x.Conj(l[i]) == api.Consonant {
		links := 0
		k := i - 1
		for ; k >= 0 && one(x.Conj(l[k]), api.Linker, api.Extends); k-- {
			if x.Conj(l[k]) == api.Linker {
				links++
			}
		}
		if k >= 0 && x.Conj(l[k]) == api.Consonant && links > 0 {
			return false
		}
	}
	if a == api.ZWJ && x.Pict(l[i]) {
		k := i - 2
		for k >= 0 && x.Break(l[k]) == api.Extend && !x.Pict(l[k]) {
			k--
		}
		if k >= 0 && x.Pict(l[k]) {
			return false
		}
	}
	flags := 0
	for k := i - 1; k >= 0 && x.Break(l[k]) == api.Flag; k-- {
		flags++
	}
	return !(b == api.Flag && flags%2 == 1)
}

// Promise 10.1: each rule by an example.
func TestStarts(t *testing.T) {
	x := ucd.Build(api.Rows())
	for _, want := range []struct {
		l      []rune
		starts []int
	}{
		{nil, nil}, {[]rune{0x65, 0x301, 0x61}, []int{0, 2}}, {[]rune{0xD, 0xA}, []int{0}}, {[]rune{0xA, 0xD}, []int{0, 1}}, {[]rune{0x1F1E6, 0x1F1E7, 0x1F1E6}, []int{0, 2}}, {[]rune{0x1F468, 0x200D, 0x1F468}, []int{0}},
		{[]rune{0x915, 0x94D, 0x915}, []int{0}}, {[]rune{0x301, 0x301}, []int{0}}, {[]rune{0x1, 0x301}, []int{0, 1}}, {[]rune{0x61, 0xA}, []int{0, 1}}, {[]rune{0x1100, 0x1100, 0x1161, 0x1161, 0x11A8, 0x11A8, 0x1161}, []int{0, 6}},
		{[]rune{0x1100, 0xAC00, 0x1161, 0x11A8}, []int{0}}, {[]rune{0x1100, 0xAC01, 0x1161}, []int{0, 2}}, {[]rune{0x61, 0x903}, []int{0}}, {[]rune{0x61, 0x200D, 0x1F468}, []int{0, 2}}, {[]rune{0x600, 0x61, 0x600}, []int{0, 2}},
		{[]rune{0x600, 0xA}, []int{0, 1}}, {[]rune{0x915, 0x301, 0x94D, 0x93C, 0x916}, []int{0}}, {[]rune{0x915, 0x301, 0x916}, []int{0, 2}}, {[]rune{0x94D, 0x915}, []int{0, 1}}, {[]rune{0x915, 0x200C, 0x94D, 0x915}, []int{0, 3}}, {[]rune{0x915, 0x94D, 0x200D, 0x915}, []int{0}},
		{[]rune{0x1F468, 0x301, 0x200D, 0x1F468}, []int{0}}, {[]rune{0x1F468, 0x200D, 0x200D, 0x1F468}, []int{0, 3}}, {[]rune{0x1F468, 0x903, 0x200D, 0x1F468}, []int{0, 3}}, {[]rune{0x61, 0x1F1E6, 0x1F1E7, 0x301, 0x1F1E6, 0x1F1E7}, []int{0, 1, 4}}, {[]rune{-1, 0x110000, math.MaxInt32}, []int{0, 1, 2}},
	} {
		if s := Starts(x, want.l); !slices.Equal(s, want.starts) {
			t.Errorf("%x: %v", want.l, s)
		}
	}
}

// Promises 10.1 to 10.4: texts by chance.
func TestAny(t *testing.T) {
	x := ucd.Build(api.Rows())
	odd := ucd.Build([]api.Row{{Kind: api.KindPict, From: 0x41, To: 0x42, A: 1}, {Kind: api.KindBreak, From: 0x42, To: 0x42, A: api.Extend}, {Kind: api.KindBreak, From: 0x43, To: 0x43, A: api.ZWJ}, {Kind: api.KindPict, From: 0x43, To: 0x43, A: 1}, {Kind: api.KindConj, From: 0x44, To: 0x44, A: api.Linker}, {Kind: api.KindConj, From: 0x45, To: 0x45, A: api.Consonant}})
	chance := rand.New(rand.NewSource(10))
	for round := range 40000 {
		l, tables := text(chance, 9), x
		if round%4 == 0 {
			tables = odd
			for i := range l {
				l[i] = 0x40 + rune(chance.Intn(6))
			}
		}
		var want []int
		for i := range l {
			if begins(tables, l, i) {
				want = append(want, i)
			}
		}
		starts := Starts(tables, l)
		if !slices.Equal(starts, want) {
			t.Fatalf("%x: %v, not %v", l, starts, want)
		}
		if tables == x { // of other tables what follows need not hold
			walk(t, tables, l, starts)
		}
	}
}

// walk tests promises 10.2 to 10.4 of one text.
func walk(t *testing.T, x *ucd.Tables, l []rune, starts []int) {
	clusters := Clusters(x, l)
	if len(clusters) != len(starts) || !slices.Equal(slices.Concat(clusters...), l) {
		t.Fatalf("%x: %x", l, clusters)
	}
	var a, b State
	for i, r := range l {
		a, _ = a.Step(x, r)
		again, is := b.Step(x, r)
		if b = again; a != b || is != slices.Contains(starts, i) {
			t.Fatalf("%x at %d: %v %v", l, i, a, b)
		}
	}
	for i, from := range starts {
		to := len(l)
		if i+1 < len(starts) {
			to = starts[i+1]
		}
		var rest []int
		for _, s := range Starts(x, l[from:]) {
			rest = append(rest, s+from)
		}
		if Next(x, l, from) != to || !slices.Equal(clusters[i], l[from:to]) || !slices.Equal(rest, starts[i:]) {
			t.Fatalf("%x from %d: %d, %x", l, from, Next(x, l, from), clusters[i])
		}
	}
	for at := range l {
		if s := append(Starts(x, l[at:]), len(l)-at); Next(x, l, at) != at+s[1] {
			t.Fatalf("%x from %d: %d", l, at, Next(x, l, at))
		}
	}
}

// Promise 10.3: edges, and memory of its own.
func TestNext(t *testing.T) {
	x := ucd.Build(api.Rows())
	l := []rune{0x61, 0x301, 0x62}
	for _, at := range []int{-1, 3, 4, math.MinInt, math.MaxInt} {
		if Next(x, l, at) != 3 {
			t.Error(at, Next(x, l, at))
		}
	}
	if Next(x, l, 0) != 2 || Next(x, l, 1) != 2 || Next(x, nil, 0) != 0 || len(Clusters(x, nil)) != 0 {
		t.Error("next")
	}
	Clusters(x, l)[0][0] = 0x7A
	if l[0] != 0x61 {
		t.Error("clusters share memory with the text")
	}
	if s := Starts(nil, []rune{0x65, 0x301, 0x1100, 0xAC00}); !slices.Equal(s, []int{0, 1, 2, 3}) {
		t.Error(s)
	}
}
