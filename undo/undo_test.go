package undo

import (
	"math/rand"
	"slices"
	"testing"

	"typebar/api"
	"typebar/shift"
)

// Promises 19.1 to 19.3: edits by chance, and all ways back.
func TestAny(t *testing.T) {
	chance := rand.New(rand.NewSource(19))
	for range 500 {
		l := []rune("abc")
		type step struct {
			l      []rune
			cursor int
		}
		var want []step // the lines, and cursors, ahead of the groups
		var s Stack
		var stacks []Stack
		for i := range 30 {
			at := chance.Intn(len(l) + 1)
			end := at + chance.Intn(len(l)-at+1)
			e := shift.Edit{At: at, Old: slices.Clone(l[at:end]), New: []rune{rune('a' + i)}}
			join := chance.Intn(3) == 0
			if !join || len(want) == 0 {
				want = append(want, step{l, i})
				stacks = append(stacks, s)
			}
			s = s.Add(e, i, join)
			l, _ = e.Do(l)
			if s.Len() != len(want) {
				t.Fatal(s.Len(), len(want))
			}
			if g, ok := s.Last(); !ok || g.Cursor != want[len(want)-1].cursor {
				t.Fatal(g, ok)
			}
			if first, cursor, ok := s.All(l, 99); !ok || !slices.Equal(first, want[0].l) || cursor != want[0].cursor {
				t.Fatal(string(first), cursor, ok)
			}
		}
		for i, x := range slices.Backward(want) {
			g, _ := s.Last()
			was, ok := g.Undo(l)
			if s = s.Drop(); !ok || !slices.Equal(was, x.l) || g.Cursor != x.cursor || s.Len() != i || s.Len() != stacks[i].Len() {
				t.Fatal(string(was), ok, g.Cursor)
			}
			l = was
		}
		if _, ok := s.Last(); ok || s.Drop().Len() != 0 {
			t.Fatal("something is left")
		}
	}
}

// Promises 19.1 and 19.2: the example, what does not fit, the empty stack.
func TestEdges(t *testing.T) {
	var s Stack
	if g, ok := s.Last(); ok || g.Edits != nil || g.Cursor != 0 || s.Len() != 0 || s.Drop().Len() != 0 {
		t.Error("the empty stack")
	}
	if l, cursor, ok := s.All([]rune("ab"), 7); string(l) != "ab" || cursor != 7 || !ok {
		t.Error(string(l), cursor, ok)
	}
	s = s.Add(shift.Edit{At: 1, New: []rune("X")}, 1, true).Add(shift.Edit{At: 2, New: []rune("Y")}, 5, true)
	if l, cursor, ok := s.All([]rune("aXYb"), 9); s.Len() != 1 || string(l) != "ab" || cursor != 1 || !ok {
		t.Error(string(l), cursor, ok)
	}
	if l, cursor, ok := s.All([]rune("aXZb"), 9); l != nil || cursor != 0 || ok {
		t.Error(string(l), cursor, ok)
	}
	g, _ := s.Last()
	if l, ok := g.Undo([]rune("aX")); l != nil || ok {
		t.Error(string(l), ok)
	}
	if l, ok := (Group{}).Undo([]rune("q")); string(l) != "q" || !ok {
		t.Error(string(l), ok)
	}
	own := []rune("q")
	a, _ := Group{}.Undo(own)
	b, _, _ := Stack{}.All(own, 0)
	a[0], b[0] = 'x', 'y'
	if own[0] != 'q' {
		t.Error("an answer shares memory with the line")
	}
	g.Edits[0].At = 9
	if again, _ := s.Last(); again.Edits[0].At != 1 {
		t.Error("a group shares memory with the stack")
	}
}

// Promise 19.1: the limit, and stacks that stay what they are.
func TestLimit(t *testing.T) {
	var s, half Stack
	for i := range api.MaxGroups + 7 {
		s = s.Add(shift.Edit{At: 0, New: []rune{rune(i)}}, i, false)
		if i == 500 {
			half = s
		}
	}
	var l []rune
	for i := range api.MaxGroups + 7 {
		l = append([]rune{rune(i)}, l...)
	}
	was, cursor, ok := s.All(l, 0)
	if s.Len() != api.MaxGroups || !ok || cursor != 7 || !slices.Equal(was, []rune{6, 5, 4, 3, 2, 1, 0}) {
		t.Error(s.Len(), cursor, ok)
	}
	a, b := half.Add(shift.Edit{At: 1}, 1, true), half.Add(shift.Edit{At: 2}, 2, true)
	ga, _ := a.Last()
	gb, _ := b.Last()
	if g, _ := half.Last(); len(g.Edits) != 1 || ga.Edits[1].At != 1 || gb.Edits[1].At != 2 || half.Len() != 501 {
		t.Error("stacks of one stack share memory")
	}
	if s.Add(shift.Edit{}, 0, true).Len() != api.MaxGroups || s.Drop().Len() != api.MaxGroups-1 {
		t.Error("lengths at the limit")
	}
}
