package motion

import (
	"math"
	"math/rand"
	"slices"
	"testing"

	"typebar/api"
	"typebar/bind"
	"typebar/text"
	"typebar/ucd"
)

var some = []rune{'a', 'b', ' ', ',', 0x301, 0xE9, 0x1F1E6, '(', ')', '[', ']', 0x4E00}

// Promises 24.1, 24.2 and 24.5: lines by chance, all commands.
func TestAny(t *testing.T) {
	tables := ucd.Build(api.Rows())
	chance := rand.New(rand.NewSource(24))
	for range 1500 {
		l := make([]rune, chance.Intn(10))
		for i := range l {
			l[i] = some[chance.Intn(len(some))]
		}
		x := text.New(tables, l)
		bounds := append(x.Starts(), x.Size())
		at, mark, n := chance.Intn(14)-2, chance.Intn(14)-2, chance.Intn(9)-4
		a := x.Floor(at)
		word := func(n int) int {
			to := a
			for ; n > 0; n-- {
				to = x.Word(to, 1)
			}
			for ; n < 0; n++ {
				to = x.Word(to, -1)
			}
			return to
		}
		goes := map[int]int{bind.Forward: x.On(at, n), bind.Backward: x.On(at, -n), bind.WordForward: word(n), bind.WordBackward: word(-n), bind.Begin: 0, bind.End: x.Size()}
		takes := map[int]int{bind.Delete: x.On(a, n), bind.Rub: x.On(a, -n), bind.KillWord: word(n), bind.RubWord: word(-n), bind.KillLine: x.Size(), bind.RubLine: 0, bind.KillRegion: x.Floor(mark), bind.CopyRegion: x.Floor(mark)}
		for command := -1; command < 36; command++ {
			to, ok := Move(x, command, at, n)
			if want, is := goes[command]; ok != is || ok && to != want || !ok && to != a || !slices.Contains(bounds, to) {
				t.Fatalf("%x, %d from %d, %d times: %d %v", x.Runes(), command, at, n, to, ok)
			}
			span, ok := Take(x, command, at, mark, n)
			end, is := takes[command]
			want := Span{min(a, end), max(a, end), end < a}
			if !is {
				want = Span{}
			}
			if ok != is || span != want || !slices.Contains(bounds, span.From) || !slices.Contains(bounds, span.To) {
				t.Fatalf("%x, %d from %d to the mark %d, %d times: %v %v", x.Runes(), command, at, mark, n, span, ok)
			}
		}
		swap(t, x, bounds, at)
	}
}

// swap tests promise 24.3.
func swap(t *testing.T, x *text.Text, bounds []int, at int) {
	i := slices.Index(bounds, x.Floor(at))
	if i == len(bounds)-1 {
		i--
	}
	span, l, ok := Swap(x, at)
	if i < 1 {
		if ok || l != nil || span != (Span{}) {
			t.Fatalf("%x at %d: %v", x.Runes(), at, span)
		}
		return
	}
	from, mid, to := bounds[i-1], bounds[i], bounds[i+1]
	if !ok || span != (Span{From: from, To: to}) || !slices.Equal(l, slices.Concat(x.Part(mid, to), x.Part(from, mid))) {
		t.Fatalf("%x at %d: %v %x", x.Runes(), at, span, l)
	}
}

// Promises 24.1 to 24.3: the examples, far numbers, nil lines.
func TestExamples(t *testing.T) {
	tables := ucd.Build(api.Rows())
	x := text.New(tables, []rune("ab cd"))
	if at, ok := Move(x, bind.WordForward, 0, 2); at != 5 || !ok {
		t.Error(at, ok)
	}
	if s, ok := Take(x, bind.Rub, 2, 0, 1); s != (Span{1, 2, true}) || !ok {
		t.Error(s, ok)
	}
	if s, l, ok := Swap(x, 1); s != (Span{0, 2, false}) || string(l) != "ba" || !ok {
		t.Error(s, l, ok)
	}
	for command, far := range map[int][2]int{bind.Forward: {0, 5}, bind.Backward: {5, 0}, bind.WordForward: {0, 5}, bind.WordBackward: {5, 0}} {
		low, _ := Move(x, command, 2, math.MinInt)
		high, _ := Move(x, command, 2, math.MaxInt)
		if low != far[0] || high != far[1] {
			t.Error(command, low, high)
		}
	}
	if s, _ := Take(x, bind.Delete, 2, 0, math.MinInt); s != (Span{0, 2, true}) {
		t.Error(s)
	}
	if s, _ := Take(x, bind.Rub, 2, 0, math.MinInt); s != (Span{2, 5, false}) {
		t.Error(s)
	}
	for command := range 35 {
		to, _ := Move(nil, command, 5, 5)
		if s, _ := Take(nil, command, 5, 5, 5); to != 0 || s != (Span{}) {
			t.Error(command, to, s)
		}
	}
	if _, _, ok := Swap(nil, 0); ok {
		t.Error("a nil line has clusters")
	}
}

// Promise 24.4.
func TestMatch(t *testing.T) {
	tables := ucd.Build(api.Rows())
	for _, x := range []struct {
		s      string
		at, to int
		ok     bool
	}{
		{"(a)", 0, 2, true}, {"(a)", 2, 0, true}, {"(a)", 1, 0, false}, {"((a)", 0, 0, false}, {"((a)", 1, 3, true}, {"a))", 2, 0, false}, {"[(])", 0, 2, true}, {"[(])", 1, 3, true}, {"{[{}]}", 0, 5, true}, {"{[{}]}", 5, 0, true}, {"{[{}]}", 3, 2, true}, {"()()", 3, 2, true},
		{"(a)", -1, 0, false}, {"(a)", 3, 0, false}, {"", 0, 0, false}, {"<>", 0, 0, false}, {"(a)", math.MinInt, 0, false}, {"(a)", math.MaxInt, 0, false},
	} {
		if to, ok := Match(text.New(tables, []rune(x.s)), x.at); to != x.to || ok != x.ok {
			t.Errorf("%s at %d: %d %v", x.s, x.at, to, ok)
		}
	}
	if _, ok := Match(nil, 0); ok {
		t.Error("a nil line has brackets")
	}
}
