package text

import (
	"math"
	"math/rand"
	"slices"
	"testing"

	"typebar/api"
	"typebar/compose"
	"typebar/quick"
	"typebar/seg"
	"typebar/shift"
	"typebar/ucd"
	"typebar/word"
)

var some = []rune{0x61, 0x65, 0x73, 0x20, 0xE9, 0x1E69, 0x1EB7, 0x212B, 0x344, 0x300, 0x301, 0x307, 0x323, 0x338, 0x345, 0x3B1, 0x313, 0x600, 0x93C, 0x915, 0x94D, 0x9C7, 0x9BE, 0xAC00, 0x1100, 0x1161, 0x11A8, 0x200D, 0x1F468, 0x1F1E6, 0x1F1E7, 0xD, 0xA, -1}

func scalars(chance *rand.Rand, most int) []rune {
	l := make([]rune, chance.Intn(most))
	for i := range l {
		l[i] = some[chance.Intn(len(some))]
	}
	return l
}

// Promises 17.1 to 17.5: lines that are changed by chance.
func TestAny(t *testing.T) {
	tables := ucd.Build(api.Rows())
	chance := rand.New(rand.NewSource(17))
	for range 3000 {
		l := scalars(chance, 9)
		x := New(tables, l)
		if !slices.Equal(x.Runes(), compose.NFC(tables, l)) {
			t.Fatalf("%x: %x", l, x.Runes())
		}
		first := x.Runes()
		var edits []shift.Edit
		for range 10 {
			bounds := append(x.Starts(), x.Size())
			i := chance.Intn(len(bounds))
			from, to := bounds[i], bounds[i+chance.Intn(len(bounds)-i)]
			was, ins := x.Runes(), scalars(chance, 4)
			c, err := x.Replace(from, to, ins)
			is := x.Runes()
			if want := compose.NFC(tables, slices.Concat(was[:from], ins, was[to:])); err != api.OK || !slices.Equal(is, want) {
				t.Fatalf("%x, %d, %d, %x: %x, not %x", was, from, to, ins, is, want)
			}
			check(t, tables, x, is)
			cursor(t, tables, was, is, from, to, c)
			edits = append(edits, c.Edit)
		}
		for _, e := range slices.Backward(edits) {
			if err := x.Do(e.Back()); err != api.OK || !quick.Composed(tables, x.Runes()) {
				t.Fatalf("%v: %d", e, err)
			}
			check(t, tables, x, x.Runes())
		}
		if !slices.Equal(x.Runes(), first) {
			t.Fatalf("%x is not %x any more", x.Runes(), first)
		}
	}
}

// check tests what a line tells of itself.
func check(t *testing.T, tables *ucd.Tables, x *Text, l []rune) {
	if x.Size() != len(l) || !slices.Equal(x.Starts(), seg.Starts(tables, l)) {
		t.Fatalf("%x: %v", l, x.Starts())
	}
	at := len(l) / 2
	if x.Word(at, 3) != word.Forward(tables, l, at) || x.Word(at, 1) != x.Word(at, 3) || x.Word(at, -1) != x.Word(at, -3) || x.Word(at, -3) != word.Back(tables, l, at) || x.Word(at, 0) != x.Floor(at) || !slices.Equal(x.Part(at-2, at+2), l[max(at-2, 0):min(at+2, len(l))]) {
		t.Fatalf("%x at %d", l, at)
	}
}

// cursor tests what a change tells: an edit that does it, as small as can be, and the first boundary from which on no more stands than was there.
func cursor(t *testing.T, tables *ucd.Tables, was, is []rune, from, to int, c Change) {
	again, ok := c.Edit.Do(was)
	e := c.Edit
	if !ok || !slices.Equal(again, is) || len(e.Old) > 0 && len(e.New) > 0 && (e.Old[0] == e.New[0] || e.Old[len(e.Old)-1] == e.New[len(e.New)-1]) {
		t.Fatalf("%x, %x: %v", was, is, e)
	}
	alike := 0
	for alike < len(was)-to && alike < len(is) && was[len(was)-1-alike] == is[len(is)-1-alike] {
		alike++
	}
	want := len(is)
	for _, b := range slices.Backward(seg.Starts(tables, is)) {
		if len(is)-b <= alike {
			want = b
		}
	}
	if c.Cursor != want {
		t.Fatalf("%x, %d, %d, %x: %d, not %d", was, from, to, is, c.Cursor, want)
	}
}

// Promise 17.2: the examples, and what is refused.
func TestReplace(t *testing.T) {
	tables := ucd.Build(api.Rows())
	x := New(tables, []rune{0x65})
	c, err := x.Replace(1, 1, []rune{0x301})
	if err != api.OK || c.Cursor != 1 || c.Edit.At != 0 || !slices.Equal(x.Runes(), []rune{0xE9}) {
		t.Error(c, err)
	}
	c, err = x.Replace(0, 0, []rune{0x78})
	if err != api.OK || c.Cursor != 1 || !slices.Equal(x.Runes(), []rune{0x78, 0xE9}) {
		t.Error(c, err)
	}
	x = New(tables, []rune{0x61, 0x338, 0x62})
	for _, at := range [][2]int{{-1, 0}, {1, 2}, {0, 1}, {2, 0}, {0, 4}, {4, 4}, {math.MinInt, math.MaxInt}, {math.MaxInt, math.MinInt}} {
		if c, err := x.Replace(at[0], at[1], []rune{0x78}); err != api.ErrRange || c.Edit.New != nil || c.Cursor != 0 || x.Size() != 3 {
			t.Error(at, c, err)
		}
	}
	if err := x.Do(shift.Edit{At: 0, Old: []rune{0x62}}); err != api.ErrRange || x.Size() != 3 {
		t.Error(err)
	}
}

// Promises 17.1 to 17.3: the limit.
func TestFull(t *testing.T) {
	tables := ucd.Build(api.Rows())
	most := slices.Repeat([]rune{0x61}, api.MaxText)
	x := New(tables, most)
	if x.Size() != api.MaxText || New(tables, append(most, 0x61)) != nil {
		t.Error("the limit of a new line")
	}
	if long := New(tables, slices.Repeat([]rune{0x65, 0x301}, api.MaxText)); long.Size() != api.MaxText {
		t.Error("the limit counts the scalars of the NFC")
	}
	c, err := x.Replace(5, 5, []rune{0x62})
	if err != api.ErrFull || c.Edit.New != nil || c.Cursor != 0 || !slices.Equal(x.Runes(), most) {
		t.Error(err)
	}
	if _, err = x.Replace(5, 5, []rune{0x301}); err != api.OK || x.Size() != api.MaxText {
		t.Error(err)
	}
	if err = x.Do(shift.Edit{At: 0, New: []rune{0x62}}); err != api.ErrFull || x.Size() != api.MaxText {
		t.Error(err)
	}
	if _, err = x.Replace(9, 1, []rune{0x62}); err != api.ErrRange {
		t.Error(err)
	}
}

// Promise 17.1: nil lines.
func TestNil(t *testing.T) {
	for _, x := range []*Text{nil, {}} {
		c, err := x.Replace(0, 0, []rune{0x61})
		if err != api.ErrState || c.Edit.New != nil || x.Do(shift.Edit{}) != api.ErrState {
			t.Error("a nil line is changed")
		}
		if len(x.Runes()) != 0 || x.Size() != 0 || len(x.Starts()) != 0 || len(x.Part(0, 9)) != 0 || x.Floor(3) != 0 || x.On(3, 3) != 0 || x.Word(3, 1) != 0 || x.Word(3, -1) != 0 || x.Word(3, 0) != 0 {
			t.Error("a nil line has something")
		}
	}
}
