package back

import (
	"math"
	"math/rand"
	"testing"

	"typebar/api"
	"typebar/seg"
	"typebar/ucd"
)

var some = []rune{0x61, 0x41, 0x301, 0xD, 0xA, 0x1, 0x600, 0x903, 0x1100, 0x1161, 0x11A8, 0xAC00, 0xAC01, 0x915, 0x916, 0x94D, 0x94D, 0x93C, 0x200C, 0x200D, 0x200D, 0x1F468, 0x2764, 0xFE0F, 0x1F1E6, 0x1F1E7, 0x1F1E8, 0x1F3FB, -1}

// plain tells the boundaries around a place, of all that there are.
func plain(starts []int, size, at int) (floor, ceil, prev, next int) {
	ceil, next = size, size
	for _, b := range append(starts, size) {
		if b <= at {
			floor = b
		}
		if b < at {
			prev = b
		}
	}
	for i := len(starts) - 1; i >= 0; i-- {
		if starts[i] >= at {
			ceil = starts[i]
		}
		if starts[i] > at {
			next = starts[i]
		}
	}
	return
}

// Promises 11.1 to 11.3: texts by chance, all places.
func TestAny(t *testing.T) {
	x := ucd.Build(api.Rows())
	chance := rand.New(rand.NewSource(11))
	for round := range 30000 {
		l := make([]rune, chance.Intn(9))
		kinds := some
		if round%3 == 0 {
			kinds = some[13:]
		}
		for i := range l {
			l[i] = kinds[chance.Intn(len(kinds))]
		}
		starts := seg.Starts(x, l)
		for at := -2; at < len(l)+3; at++ {
			floor, ceil, prev, next := plain(starts, len(l), at)
			if len(l) == 0 {
				floor, ceil, prev, next = 0, 0, 0, 0
			}
			is := at >= 0 && at <= len(l) && floor == at
			if Floor(x, l, at) != floor || Ceil(x, l, at) != ceil || Prev(x, l, at) != prev || Next(x, l, at) != next || Is(x, l, at) != is {
				t.Fatalf("%x at %d: %d %d %d %d %v, not %d %d %d %d %v", l, at, Floor(x, l, at), Ceil(x, l, at), Prev(x, l, at), Next(x, l, at), Is(x, l, at), floor, ceil, prev, next, is)
			}
		}
		n := 0
		for at := 0; at < len(l); at = Next(x, l, at) {
			if at != starts[n] {
				t.Fatalf("%x: %d is met", l, at)
			}
			n++
		}
		for at := len(l); at > 0; n-- {
			if at = Prev(x, l, at); at != starts[n-1] {
				t.Fatalf("%x: %d is met going back", l, at)
			}
		}
		if n != 0 {
			t.Fatalf("%x: not all boundaries are met", l)
		}
	}
}

// Promises 11.1 and 11.2: the examples, and the edges.
func TestExamples(t *testing.T) {
	x := ucd.Build(api.Rows())
	l := []rune{0x61, 0x1F1E6, 0x1F1E7, 0x1F1E8}
	if Floor(x, l, 2) != 1 || Prev(x, l, 3) != 1 || Ceil(x, l, 2) != 3 || Next(x, l, 0) != 1 {
		t.Error(Floor(x, l, 2), Prev(x, l, 3), Ceil(x, l, 2), Next(x, l, 0))
	}
	if Floor(x, l, math.MinInt) != 0 || Floor(x, l, math.MaxInt) != 4 || Ceil(x, l, math.MinInt) != 0 || Ceil(x, l, math.MaxInt) != 4 || Prev(x, l, math.MinInt) != 0 || Prev(x, l, math.MaxInt) != 4 || Next(x, l, math.MinInt) != 0 || Next(x, l, math.MaxInt) != 4 {
		t.Error("far places")
	}
	if Is(x, l, -1) || Is(x, l, 5) || !Is(x, l, 4) || !Is(x, nil, 0) || Is(x, l, 2) || Is(x, l, math.MinInt) {
		t.Error("what is a boundary")
	}
	if Floor(nil, nil, 0) != 0 || Ceil(nil, nil, 3) != 0 || Prev(nil, nil, 3) != 0 || Next(nil, nil, -3) != 0 {
		t.Error("nothing")
	}
}

// Rule R1: a long text is walked in time.
func TestLong(t *testing.T) {
	x := ucd.Build(api.Rows())
	l := make([]rune, 60000)
	for i := range l {
		l[i] = some[i%2*2]
	}
	n := 0
	for at := 0; at < len(l); at = Next(x, l, at) {
		n++
	}
	for at := len(l); at > 0; at = Prev(x, l, at) {
		n--
	}
	if n != 0 {
		t.Error(n)
	}
}
