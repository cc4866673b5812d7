package ansi

import (
	"math"
	"math/rand"
	"slices"
	"strings"
	"testing"

	"typebar/api"
	"typebar/wrap"
)

// Promise 30.1.
func TestPut(t *testing.T) {
	for _, x := range []struct {
		o Op
		s string
	}{
		{Op{}, ""}, {Op{Kind: Text, A: 5, Text: "a\u0301"}, "a\u0301"}, {Op{Kind: Move, B: 4}, "\x1b[1;5H"}, {Op{Kind: Move, A: 499, B: 999}, "\x1b[500;1000H"}, {Op{Kind: EraseRow, A: 3}, "\x1b[K"}, {Op{Kind: EraseAll}, "\x1b[2J"}, {Op{Kind: Bell}, "\a"}, {Op{Kind: Return}, "\r"}, {Op{Kind: Feed, Text: "x"}, "\n"},
		{Op{Kind: RightBy, A: 1}, "\x1b[C"}, {Op{Kind: RightBy, A: 2, B: 9}, "\x1b[2C"}, {Op{Kind: LeftBy, A: 1}, "\x1b[D"}, {Op{Kind: LeftBy, A: 12}, "\x1b[12D"}, {Op{Kind: UpBy, A: 1}, "\x1b[A"}, {Op{Kind: UpBy, A: 0}, "\x1b[0A"}, {Op{Kind: DownBy, A: 1}, "\x1b[B"}, {Op{Kind: DownBy, A: -7}, "\x1b[0B"}, {Op{Kind: DownBy, A: 9999}, "\x1b[9999B"}, {Op{Kind: DownBy, A: 10000}, "\x1b[9999B"},
		{Op{Kind: UpBy, A: math.MinInt}, "\x1b[0A"}, {Op{Kind: UpBy, A: math.MaxInt}, "\x1b[9999A"}, {Op{Kind: Move, A: math.MaxInt, B: 9998}, "\x1b[9999;9999H"}, {Op{Kind: 12, A: 1, Text: "a"}, ""}, {Op{Kind: -1, Text: "a"}, ""}, {Op{Kind: MostOfThem}, ""},
	} {
		if s := Put(x.o); s != x.s {
			t.Errorf("%v: %q", x.o, s)
		}
	}
	if MostOfThem != 9999 || All(nil) != "" || All([]Op{{Kind: Text, Text: "a"}, {Kind: 99}, {Kind: Bell}}) != "a\a" {
		t.Error("all")
	}
}

// Promise 30.2.
func TestTake(t *testing.T) {
	for _, x := range []struct {
		s string
		l []Op
	}{
		{"", nil}, {"a\xffb~ ", []Op{{Kind: Text, Text: "a\xffb~ "}}}, {"\x1b[1;5Hx", []Op{{Kind: Move, B: 4}, {Kind: Text, Text: "x"}}}, {"\x1b[9999;9999H", []Op{{Kind: Move, A: 9998, B: 9998}}}, {"\x1b[K\x1b[2J\a\r\n", []Op{{Kind: EraseRow}, {Kind: EraseAll}, {Kind: Bell}, {Kind: Return}, {Kind: Feed}}},
		{"\x1b[C\x1b[2D\x1b[10A\x1b[B", []Op{{Kind: RightBy, A: 1}, {Kind: LeftBy, A: 2}, {Kind: UpBy, A: 10}, {Kind: DownBy, A: 1}}},
	} {
		l, at, err := Take(x.s)
		if !slices.Equal(l, x.l) || at != 0 || err != api.OK {
			t.Errorf("%q: %v %d %d", x.s, l, at, err)
		}
	}
	for _, s := range []string{"\x00", "\x7f", "\x1b", "\x1b[", "\x1b[1", "\x1b[1C", "\x1b[0C", "\x1b[01C", "\x1b[02C", "\x1b[12345C", "\x1b[H", "\x1b[1H", "\x1b[;H", "\x1b[1;H", "\x1b[;1H", "\x1b[0;1H", "\x1b[1;0H", "\x1b[1;1", "\x1b[1;", "\x1b[1;1f", "\x1b[1;1;1H", "\x1b[J", "\x1b[1J", "\x1b[3J", "\x1b[22J", "\x1b[1K", "\x1b[2K", "\x1b[E", "\x1b[-1C", "\x1bC", "\x1b[ C", "\t", "\x1b[10000;1H", "\x1b[\x1b[C", "\x1bxC", "\x00[C", "\x1b[1;1C"} {
		for _, ahead := range []string{"", "ab", "a\x1b[C\r"} {
			for _, behind := range []string{"", "z"} {
				if l, at, err := Take(ahead + s + behind); l != nil || at != len(ahead) || err != api.ErrForm {
					t.Errorf("%q: %v %d %d", ahead+s+behind, l, at, err)
				}
			}
		}
	}
	if l, at, err := Take("\x1b[2"); l != nil || at != 0 || err != api.ErrForm {
		t.Error(l, at, err)
	}
}

// Promise 30.4: what was sent is read as it was.
func TestAny(t *testing.T) {
	chance := rand.New(rand.NewSource(30))
	for range 5000 {
		var l, want []Op
		for range chance.Intn(8) {
			o := Op{Kind: 1 + chance.Intn(11)}
			switch o.Kind {
			case Text:
				o.Text = []string{"a", "bc", "\u4E00", "[1;2H"}[chance.Intn(4)]
			case Move:
				o.A, o.B = chance.Intn(MostOfThem), chance.Intn(1000)
			case RightBy, LeftBy, UpBy, DownBy:
				o.A = 1 + chance.Intn(1+chance.Intn(MostOfThem))
			}
			l = append(l, o)
			if n := len(want); o.Kind == Text && n > 0 && want[n-1].Kind == Text {
				want[n-1].Text += o.Text
			} else {
				want = append(want, o)
			}
		}
		if got, _, err := Take(All(l)); err != api.OK || !slices.Equal(got, want) {
			t.Fatalf("%v: %v %d", l, got, err)
		}
	}
}

// walk tells where a way leads.
func walk(at wrap.Spot, l []Op) wrap.Spot {
	for _, o := range l {
		switch o.Kind {
		case Move:
			at = wrap.Spot{Row: o.A, Col: o.B}
		case Return:
			at.Col = 0
		case RightBy:
			at.Col += o.A
		case LeftBy:
			at.Col -= o.A
		case UpBy:
			at.Row -= o.A
		case DownBy:
			at.Row += o.A
		}
	}
	return at
}

// Promises 30.3 and 30.4.
func TestWay(t *testing.T) {
	for _, x := range []struct {
		from, to wrap.Spot
		s        string
	}{
		{wrap.Spot{Row: 2, Col: 7}, wrap.Spot{Row: 2}, "\r"}, {wrap.Spot{Row: 2, Col: 7}, wrap.Spot{Row: 2, Col: 8}, "\x1b[C"}, {wrap.Spot{Row: 2, Col: 7}, wrap.Spot{Row: 2, Col: 7}, ""}, {wrap.Spot{}, wrap.Spot{}, ""}, {wrap.Spot{Row: 2}, wrap.Spot{Row: 1}, "\x1b[A"}, {wrap.Spot{Row: 2, Col: 3}, wrap.Spot{Row: 3}, "\x1b[B\r"},
		{wrap.Spot{Row: 2, Col: 3}, wrap.Spot{Row: 3, Col: 4}, "\x1b[4;5H"}, {wrap.Spot{Row: 2, Col: 3}, wrap.Spot{Row: 13, Col: 14}, "\x1b[14;15H"}, {wrap.Spot{Row: 200, Col: 300}, wrap.Spot{Row: 201, Col: 301}, "\x1b[B\x1b[C"}, {wrap.Spot{Row: 5, Col: 1}, wrap.Spot{}, "\x1b[5A\r"}, {wrap.Spot{Col: 1}, wrap.Spot{}, "\r"}, {wrap.Spot{Row: 9, Col: 4}, wrap.Spot{Row: 9, Col: 2}, "\x1b[2D"},
	} {
		if s := All(Way(x.from, x.to)); s != x.s {
			t.Errorf("%v to %v: %q", x.from, x.to, s)
		}
	}
	chance := rand.New(rand.NewSource(31))
	spot := func() wrap.Spot { return wrap.Spot{Row: chance.Intn(500), Col: chance.Intn(1000) * chance.Intn(2)} }
	for range 20000 {
		from, to := spot(), spot()
		if chance.Intn(2) == 0 {
			to = wrap.Spot{Row: max(0, from.Row+chance.Intn(3)-1), Col: max(0, from.Col+chance.Intn(3)-1)}
		}
		l := Way(from, to)
		size := len(All(l))
		if walk(from, l) != to || size > 11 || size > len(Put(Op{Kind: Move, A: to.Row, B: to.Col})) {
			t.Fatalf("%v to %v: %v", from, to, l)
		}
	}
	for _, n := range []int{math.MinInt, math.MaxInt} {
		Way(wrap.Spot{Row: n, Col: -n}, wrap.Spot{Row: -n, Col: n})
	}
	if s := Put(Op{Kind: Text, Text: strings.Repeat("x", 5)}); s != "xxxxx" {
		t.Error(s)
	}
}
