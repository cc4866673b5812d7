package fold

import (
	"math/rand"
	"slices"
	"testing"

	"typebar/api"
	"typebar/compose"
	"typebar/decomp"
	"typebar/seg"
	"typebar/ucd"
)

var some = []rune{'a', 'e', 's', 0xE9, 0xE8, 0x1E69, 0x301, 0x323, 0x1EB7, 0xAC00, 0x1100, 0x1161, 0x93C, 0x915, 0x94D, 0x600, 0x200D, -1}

func text(chance *rand.Rand, most int) []rune {
	l := make([]rune, chance.Intn(most))
	for i := range l {
		l[i] = some[chance.Intn(len(some))]
	}
	return l
}

// plain looks for a pattern in all rows of clusters, the first ones first.
func plain(x *ucd.Tables, l, pattern []rune) (int, int, bool) {
	bounds := append(seg.Starts(x, l), len(l))
	key := Key(x, pattern)
	if len(key) == 0 {
		return 0, 0, true
	}
	for i, from := range bounds {
		var keys []rune
		for k := i + 1; k < len(bounds); k++ {
			keys = append(keys, Key(x, l[bounds[k-1]:bounds[k]])...)
			if slices.Equal(keys, key) {
				return from, bounds[k], true
			}
		}
	}
	return 0, 0, false
}

// Promises 42.1 to 42.3: texts by chance.
func TestAny(t *testing.T) {
	x := ucd.Build(api.Rows())
	chance := rand.New(rand.NewSource(42))
	for range 20000 {
		l, pattern := text(chance, 10), text(chance, 4)
		var key, bare []rune
		marks := 0
		for _, r := range decomp.NFD(x, l) {
			if x.Class(r) == 0 {
				key = append(key, r)
			} else {
				marks++
			}
		}
		for _, c := range seg.Clusters(x, l) {
			if k := Key(x, c); len(k) > 0 {
				bare = append(bare, k...)
			} else {
				bare = append(bare, c...)
			}
		}
		if !slices.Equal(Key(x, l), key) || Marks(x, l) != marks || !slices.Equal(Bare(x, l), bare) {
			t.Fatalf("%x: %x %d %x", l, Key(x, l), Marks(x, l), Bare(x, l))
		}
		if !slices.Equal(Key(x, compose.NFC(x, l)), key) || !Same(x, l, key) || Same(x, l, pattern) != slices.Equal(key, Key(x, pattern)) {
			t.Fatalf("%x", l)
		}
		from, to, ok := Find(x, l, pattern)
		a, b, is := plain(x, l, pattern)
		if from != a || to != b || ok != is || ok && !Same(x, l[from:to], pattern) && len(Key(x, pattern)) > 0 {
			t.Fatalf("%x in %x: %d %d %v, not %d %d %v", pattern, l, from, to, ok, a, b, is)
		}
	}
}

// Promises 42.1 and 42.2: the examples, and nothing.
func TestExamples(t *testing.T) {
	x := ucd.Build(api.Rows())
	if from, to, ok := Find(x, []rune{0x78, 0xE9, 0x79}, []rune{0x65}); from != 1 || to != 2 || !ok {
		t.Error(from, to, ok)
	}
	if k := Key(x, []rune{0x1E69}); !slices.Equal(k, []rune{0x73}) {
		t.Errorf("%x", k)
	}
	if b := Bare(x, []rune{0xE9, 0x301}); !slices.Equal(b, []rune{0x65}) {
		t.Errorf("%x", b)
	}
	if b := Bare(x, []rune{0x344, 0x301}); !slices.Equal(b, []rune{0x344, 0x301}) {
		t.Errorf("%x", b)
	}
	if Marks(x, []rune{0x1E69, 0x344}) != 4 || Marks(x, nil) != 0 || len(Key(x, nil)) != 0 || len(Bare(x, nil)) != 0 || !Same(x, nil, []rune{0x301}) {
		t.Error("marks")
	}
	for _, l := range [][]rune{nil, {0x61}} {
		for _, pattern := range [][]rune{nil, {0x301}} {
			if from, to, ok := Find(x, l, pattern); from != 0 || to != 0 || !ok {
				t.Error(from, to, ok)
			}
		}
	}
	// A cluster whose key is empty begins first.
	if from, to, ok := Find(x, []rune{0x62, 0xA, 0x301, 0x61, 0xA, 0x301}, []rune{0x61}); from != 2 || to != 4 || !ok {
		t.Error(from, to, ok)
	}
	l := []rune{0x301}
	if Bare(x, l)[0] = 0x61; l[0] != 0x301 {
		t.Error("an answer shares memory with the text")
	}
}
