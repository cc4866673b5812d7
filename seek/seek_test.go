package seek

import (
	"math"
	"math/rand"
	"slices"
	"testing"

	"typebar/api"
	"typebar/find"
	"typebar/ucd"
)

func same(a, b Search) bool {
	return a.Back == b.Back && slices.Equal(a.Pattern, b.Pattern) && a.At == b.At && a.Place == b.Place && a.Failed == b.Failed && a.HomeAt == b.HomeAt && a.HomePlace == b.HomePlace
}

// Promises 25.1 and 25.2: the example, step by step.
func TestExample(t *testing.T) {
	x := ucd.Build(api.Rows())
	lines := [][]rune{nil, []rune("cab"), []rune("abc")}
	s := Begin(true, 0, 0)
	if !same(s, Search{Back: true}) || !same(Begin(false, 3, 2), Search{At: 3, Place: 2, HomeAt: 3, HomePlace: 2}) {
		t.Error(s)
	}
	s = s.Type(x, lines, 'a')
	if !same(s, Search{Back: true, Pattern: []rune("a"), At: 1, Place: 1}) {
		t.Error(s)
	}
	s = s.Again(x, lines, true)
	if !same(s, Search{Back: true, Pattern: []rune("a"), At: 2}) {
		t.Error(s)
	}
	f := s.Again(x, lines, true)
	if !same(f, Search{Back: true, Pattern: []rune("a"), At: 2, Failed: true}) {
		t.Error(f)
	}
	if f = f.Again(x, lines, false); !same(f, Search{Pattern: []rune("a"), At: 1, Place: 1}) {
		t.Error(f)
	}
	f = s.Type(x, lines, 'x')
	if !same(f, Search{Back: true, Pattern: []rune("ax"), At: 2, Failed: true}) {
		t.Error(f)
	}
	if g := f.Rub(x, lines); !same(g, Search{Back: true, Pattern: []rune("a"), At: 1, Place: 1}) {
		t.Error(g)
	}
	if g := f.Rub(x, lines).Rub(x, lines); !same(g, Search{Back: true}) || !same(g.Rub(x, lines), g) {
		t.Error(g)
	}
	if g := (Search{At: 2, Place: 1, Failed: true}).Again(x, lines, true); !same(g, Search{Back: true, At: 2, Place: 1}) {
		t.Error(g)
	}
	if !same(s, Search{Back: true, Pattern: []rune("a"), At: 2}) {
		t.Error("a search was changed")
	}
	for _, at := range []int{math.MinInt, math.MaxInt, -1, 3} {
		g := Begin(true, at, 0).Type(x, lines, 'a')
		if !g.Failed || g.At != at || !g.Again(x, lines, true).Failed && at != -1 || !g.Again(x, lines, false).Failed && at != 3 {
			t.Error(at, g)
		}
	}
}

// Promises 25.2, 25.3 and T2: what is done by chance.
func TestAny(t *testing.T) {
	x := ucd.Build(api.Rows())
	chance := rand.New(rand.NewSource(25))
	signs := []rune{'a', 'b', 'e', 0xE9, 0x301}
	for range 3000 {
		lines := make([][]rune, 1+chance.Intn(5))
		for i := range lines {
			for range chance.Intn(5) {
				lines[i] = append(lines[i], signs[chance.Intn(5)])
			}
		}
		s := Begin(chance.Intn(2) == 0, chance.Intn(len(lines)), 0)
		for range 8 {
			was, from := s, s.At
			switch chance.Intn(4) {
			case 0:
				s = s.Rub(x, lines)
				from = s.HomeAt
			case 1:
				back := chance.Intn(2) == 0
				s = s.Again(x, lines, back)
				if from--; back {
					from += 2
				}
			default:
				s = s.Type(x, lines, signs[chance.Intn(5)])
			}
			check(t, x, lines, was, s, from)
		}
	}
}

// check tests that a search is at the nearest line from one on.
func check(t *testing.T, x *ucd.Tables, lines [][]rune, was, s Search, from int) {
	if len(s.Pattern) == 0 {
		if s.Failed {
			t.Fatal(s)
		}
		return
	}
	step := -1
	if s.Back {
		step = 1
	}
	for ; from >= 0 && from < len(lines); from += step {
		if place, _, ok := find.Find(x, lines[from], s.Pattern); ok {
			if s.Failed || s.At != from || s.Place != place {
				t.Fatalf("%x: %v, not at %d", lines, s, from)
			}
			return
		}
	}
	stays := s.At == was.At && s.Place == was.Place || s.At == s.HomeAt && s.Place == s.HomePlace
	if !s.Failed || !stays {
		t.Fatalf("%x: %v, where there is nothing", lines, s)
	}
}
