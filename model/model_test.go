package model

import (
	"math"
	"math/rand"
	"slices"
	"testing"

	"typebar/api"
	"typebar/bind"
	"typebar/compose"
	"typebar/editor"
	"typebar/motion"
	"typebar/seg"
	"typebar/text"
	"typebar/ucd"
)

var some = []rune{'a', 'b', 'e', ' ', ',', 0xE9, 0x301, 0x301, 0x323, 0x915, 0x94D, 0x1F1E6, 0x1F1E7, 0x4E00, 0x600, 0x1100, 0x1161, 0x11A8, 0xAC00, 0x1EA1, 0x306, 0x200D, 0x1F468}

func scalars(chance *rand.Rand, most int) []rune {
	l := make([]rune, chance.Intn(most))
	for i := range l {
		l[i] = some[chance.Intn(len(some))]
	}
	return l
}

// Promises 35.1 to 35.3: the examples, and the edges.
func TestExamples(t *testing.T) {
	tables := ucd.Build(api.Rows())
	x := Of(tables, []rune{0x65, 0x78})
	y, ok := x.Put(tables, 1, 1, []rune{0x301})
	if !ok || len(y.Clusters) != 2 || !slices.Equal(y.Clusters[0], []rune{0xE9}) || y.At != 1 || y.Place() != 1 || x.At != 0 || !slices.Equal(x.Runes(), []rune{0x65, 0x78}) {
		t.Error(y, ok)
	}
	x.At = 1
	for _, at := range [][2]int{{-1, 0}, {2, 1}, {0, 3}, {math.MinInt, math.MaxInt}, {3, 3}} {
		if y, ok := x.Put(tables, at[0], at[1], []rune{'a'}); ok || y.At != 1 || !slices.Equal(y.Runes(), []rune{0x65, 0x78}) {
			t.Error(at, y, ok)
		}
	}
	long := Of(tables, slices.Repeat([]rune{'a'}, api.MaxText))
	if y, ok := long.Put(tables, 0, 0, []rune{'b'}); ok || len(y.Clusters) != api.MaxText {
		t.Error("a line that is too long")
	}
	if y, ok := long.Put(tables, 5, 5, []rune{0x301}); !ok || len(y.Clusters) != api.MaxText {
		t.Error("a line that is as long as can be")
	}
	for at, place := range map[int]int{math.MinInt: 0, -1: 0, 0: 0, 1: 1, 2: 3, 3: 3, math.MaxInt: 3} {
		z := Line{[][]rune{{'a'}, {'e', 0x323}}, at}
		if z.Place() != place || z.On(0).Place() != place || z.On(math.MaxInt).At != 2 || z.On(math.MinInt).At != 0 {
			t.Error(at, z.Place())
		}
	}
	var none Line
	if len(none.Runes()) != 0 || none.Place() != 0 || none.On(5).At != 0 || none.Word(tables, true).At != 0 || none.Word(tables, false).At != 0 {
		t.Error("the line of nothing")
	}
}

// Promise 35.3: words.
func TestWord(t *testing.T) {
	tables := ucd.Build(api.Rows())
	x := Of(tables, []rune("ab, cd "))
	for at, want := range [][2]int{{2, 0}, {2, 0}, {6, 0}, {6, 0}, {6, 0}, {6, 4}, {7, 4}, {7, 4}} {
		x.At = at
		if x.Word(tables, false).At != want[0] || x.Word(tables, true).At != want[1] {
			t.Error(at, x.Word(tables, false).At, x.Word(tables, true).At)
		}
	}
}

// Promises 35.1 to 35.4: a list of clusters, and a line, that are changed likewise.
func TestAny(t *testing.T) {
	tables := ucd.Build(api.Rows())
	chance := rand.New(rand.NewSource(35))
	for range 2000 {
		l := scalars(chance, 12)
		x, y := Of(tables, l), text.New(tables, l)
		cursor := 0
		for range 8 {
			bounds := append(y.Starts(), y.Size())
			switch i := chance.Intn(len(bounds)); chance.Intn(4) {
			case 0:
				n := chance.Intn(7) - 3
				x, cursor = x.On(n), y.On(cursor, n)
			case 1:
				back := chance.Intn(2) == 0
				command := bind.WordForward
				if back {
					command = bind.WordBackward
				}
				x = x.Word(tables, back)
				cursor, _ = motion.Move(y, command, cursor, 1)
			default:
				k := i + chance.Intn(len(bounds)-i)
				ins := scalars(chance, 4)
				c, _ := y.Replace(bounds[i], bounds[k], ins)
				x, _ = x.Put(tables, i, k, ins)
				cursor = c.Cursor
			}
			if !slices.Equal(x.Runes(), y.Runes()) || x.Place() != cursor || !slices.EqualFunc(x.Clusters, seg.Clusters(tables, compose.NFC(tables, y.Runes())), slices.Equal) {
				t.Fatalf("%x at %d, not %x at %d", x.Runes(), x.Place(), y.Runes(), cursor)
			}
		}
	}
}

// Promise T5: an editor, and a list of clusters, that are told the same.
func TestEditor(t *testing.T) {
	tables := ucd.Build(api.Rows())
	chance := rand.New(rand.NewSource(36))
	for range 400 {
		e := editor.New(tables, bind.Map{})
		var x Line
		for range 60 {
			n := 1 + chance.Intn(3)
			count := api.Key{Kind: api.KeyChar, Rune: '0' + rune(n), Meta: true}
			control := func(r rune) { e.Key(count); e.Key(api.Key{Kind: api.KeyCtrl, Rune: r}) }
			meta := func(r rune) { e.Key(count); e.Key(api.Key{Kind: api.KeyChar, Rune: r, Meta: true}) }
			word := func(back bool) Line {
				y := x
				for range n {
					y = y.Word(tables, back)
				}
				return y
			}
			switch chance.Intn(12) {
			case 0:
				control(6)
				x = x.On(n)
			case 1:
				control(2)
				x = x.On(-n)
			case 2:
				meta('f')
				x = word(false)
			case 3:
				meta('b')
				x = word(true)
			case 4:
				control(4)
				x = cut(tables, x, x.On(n))
			case 5:
				control(127)
				x = cut(tables, x, x.On(-n))
			case 6:
				meta('d')
				x = cut(tables, x, word(false))
			case 7:
				control(1)
				x.At = 0
			default:
				r := some[chance.Intn(len(some))]
				e.Key(count)
				e.Key(api.Key{Kind: api.KeyChar, Rune: r})
				x, _ = x.Put(tables, x.At, x.At, slices.Repeat([]rune{r}, n))
			}
			if !slices.Equal(e.Line(), x.Runes()) || e.Now().Cursor != x.Place() {
				t.Fatalf("%x at %d, not %x at %d", e.Line(), e.Now().Cursor, x.Runes(), x.Place())
			}
		}
	}
}

// cut takes out what lies between the cursor and where it would be.
func cut(t *ucd.Tables, x, to Line) Line {
	if x.At == to.At {
		return x
	}
	out, _ := x.Put(t, min(x.At, to.At), max(x.At, to.At), nil)
	return out
}
