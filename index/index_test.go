package index

import (
	"math"
	"math/rand"
	"slices"
	"testing"

	"typebar/api"
	"typebar/local"
	"typebar/seg"
	"typebar/ucd"
)

var some = []rune{0x61, 0x62, 0x301, 0xD, 0xA, 0x600, 0x903, 0x1100, 0x1161, 0x11A8, 0xAC00, 0x915, 0x94D, 0x94D, 0x200D, 0x1F468, 0x1F1E6, 0x1F1E7, 0x1F1E8, -1}

func text(chance *rand.Rand, most int) []rune {
	l := make([]rune, chance.Intn(most))
	for i := range l {
		l[i] = some[chance.Intn(len(some))]
	}
	return l
}

// Promises 15.2 and 15.4: changes by chance, one behind the other.
func TestChange(t *testing.T) {
	x := ucd.Build(api.Rows())
	chance := rand.New(rand.NewSource(15))
	for range 3000 {
		l := text(chance, 15)
		now := Of(x, l)
		for range 8 {
			from := chance.Intn(len(l) + 1)
			to := from + chance.Intn(len(l)-from+1)
			ins := text(chance, 4)
			was, kept := now, now.Starts()
			is := slices.Concat(l[:from], ins, l[to:])
			now = now.Change(x, is, local.Window{From: from, Was: to, Is: from + len(ins)})
			if !slices.Equal(now.Starts(), seg.Starts(x, is)) || now.Len() != len(is) || now.Count() != len(now.Starts()) {
				t.Fatalf("%x, now %x: %v, not %v", l, is, now.Starts(), seg.Starts(x, is))
			}
			if !slices.Equal(was.Starts(), kept) {
				t.Fatal("the index was changed")
			}
			l = is
		}
	}
}

// Promises 15.1 and 15.3: all places of texts by chance.
func TestPlaces(t *testing.T) {
	x := ucd.Build(api.Rows())
	chance := rand.New(rand.NewSource(16))
	for range 2000 {
		l := text(chance, 9)
		now := Of(x, l)
		starts := seg.Starts(x, l)
		bounds := append(slices.Clone(starts), len(l))
		for i := -2; i < len(l)+3; i++ {
			start := len(l)
			if i >= 0 && i < len(starts) {
				start = starts[i]
			}
			if now.Start(i) != start {
				t.Fatalf("%x: the start %d is %d", l, i, now.Start(i))
			}
			floor, ceil, number := 0, len(l), 0
			for k, b := range bounds {
				if b <= i {
					floor, number = b, k
				}
			}
			for _, b := range slices.Backward(bounds) {
				if b >= i {
					ceil = b
				}
			}
			if now.Floor(i) != floor || now.Ceil(i) != ceil {
				t.Fatalf("%x at %d: %d %d, not %d %d", l, i, now.Floor(i), now.Ceil(i), floor, ceil)
			}
			for n := -12; n < 12; n++ {
				if on := bounds[min(max(number+n, 0), len(bounds)-1)]; now.On(i, n) != on {
					t.Fatalf("%x from %d, %d on: %d, not %d", l, i, n, now.On(i, n), on)
				}
			}
		}
	}
}

// Promises 15.1 to 15.3: the examples, and the edges.
func TestExamples(t *testing.T) {
	x := ucd.Build(api.Rows())
	now := Of(x, []rune{0x61, 0x301, 0x62})
	if !slices.Equal(now.Starts(), []int{0, 2}) || now.Len() != 3 || now.Count() != 2 || now.On(0, 1) != 2 || now.On(3, -9) != 0 {
		t.Error(now)
	}
	now = now.Change(x, []rune{0x61, 0x301, 0x62, 0x301}, local.Window{From: 3, Was: 3, Is: 4})
	if !slices.Equal(now.Starts(), []int{0, 2}) || now.Len() != 4 {
		t.Error(now)
	}
	for _, n := range []int{math.MinInt, math.MaxInt} {
		if now.On(math.MaxInt, n) != max(min(n, 4), 0) || now.On(math.MinInt, n) != max(min(n, 4), 0) || now.Start(n) != 4 {
			t.Error(n)
		}
	}
	if now.Floor(math.MinInt) != 0 || now.Floor(math.MaxInt) != 4 || now.Ceil(math.MinInt) != 0 || now.Ceil(math.MaxInt) != 4 {
		t.Error("far places")
	}
	var none Index
	if none.Len() != 0 || none.Count() != 0 || none.Start(0) != 0 || none.Floor(5) != 0 || none.Ceil(-5) != 0 || none.On(3, 3) != 0 || len(none.Starts()) != 0 {
		t.Error("the zero one has something")
	}
	now.Starts()[0] = 7
	if now.Start(0) != 0 {
		t.Error("what is told shares memory with the index")
	}
	// A window that cannot be: the index is that of the text all the same.
	for _, w := range []local.Window{{From: -1, Was: 2, Is: 2}, {From: 3, Was: 9, Is: 9}, {From: math.MinInt, Was: math.MaxInt, Is: 0}, {From: 2, Was: 1, Is: 1}} {
		if y := now.Change(x, []rune{0x61, 0x62}, w); !slices.Equal(y.Starts(), []int{0, 1}) || y.Len() != 2 {
			t.Error(w, y)
		}
	}
}
