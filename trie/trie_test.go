package trie

import (
	"math"
	"math/rand"
	"slices"
	"testing"
)

// Promise 3.1: ordinary pieces, ones that reach out, ones that have nothing.
func TestBuild(t *testing.T) {
	x := Build(300, 0, Piece[int]{10, 20, 7}, Piece[int]{15, 30, 8}, Piece[int]{-5, 2, 9}, Piece[int]{290, math.MaxInt, 6}, Piece[int]{40, 35, 5}, Piece[int]{math.MinInt, -1, 4}, Piece[int]{300, 400, 3})
	for _, want := range []struct{ i, value int }{{0, 9}, {2, 9}, {3, 0}, {9, 0}, {10, 7}, {15, 7}, {20, 7}, {21, 8}, {30, 8}, {31, 0}, {37, 0}, {289, 0}, {290, 6}, {299, 6}, {300, 0}, {-1, 0}, {math.MaxInt, 0}, {math.MinInt, 0}} {
		if v := x.Get(want.i); v != want.value {
			t.Errorf("%d has %d, not %d", want.i, v, want.value)
		}
	}
	for _, size := range []int{0, -1, math.MinInt} {
		if Build(size, 0, Piece[int]{0, 5, 1}) != nil {
			t.Errorf("there is a trie of the size %d", size)
		}
	}
}

// Promise 3.2: outside of the size stands the type's zero value, not the trie's.
func TestGetOutside(t *testing.T) {
	x := Build(5, "none", Piece[string]{1, 2, "some"})
	if x.Get(0) != "none" || x.Get(1) != "some" || x.Get(5) != "" || x.Get(-1) != "" || x.Len() != 5 {
		t.Error(x.Get(0), x.Get(1), x.Get(5), x.Get(-1), x.Len())
	}
	if p := x.Pieces(); !slices.Equal(p, []Piece[string]{{0, 0, "none"}, {1, 2, "some"}, {3, 4, "none"}}) {
		t.Error(p)
	}
	p := x.Pieces()
	p[0].Value = "other"
	if x.Get(0) != "none" {
		t.Error("pieces share memory with the trie")
	}
}

// Rule R1: nil tries.
func TestNil(t *testing.T) {
	var x *Trie[int]
	if x.Get(0) != 0 || x.Len() != 0 || x.Blocks() != 0 || len(x.Pieces()) != 0 {
		t.Error("a nil trie has something")
	}
}

// Promise 3.3.
func TestBlocks(t *testing.T) {
	if Wide != 128 {
		t.Error("how wide blocks are")
	}
	for _, x := range []struct {
		size, blocks int
		l            []Piece[int]
	}{
		{1, 1, nil}, {300, 1, nil}, {300, 2, []Piece[int]{{10, 20, 7}}}, {256, 1, []Piece[int]{{10, 20, 7}, {138, 148, 7}}}, {256, 2, []Piece[int]{{10, 20, 7}, {138, 148, 8}}},
		{129, 2, []Piece[int]{{0, 127, 3}}}, {129, 1, []Piece[int]{{0, 128, 3}}}, {130, 2, []Piece[int]{{129, 129, 3}}}, {384, 3, []Piece[int]{{0, 127, 1}, {128, 255, 2}}},
		{384, 2, []Piece[int]{{0, 127, 1}, {256, 383, 1}}}, {1000000, 2, []Piece[int]{{500, 500, 1}}}, {257, 1, []Piece[int]{{0, 256, 1}}}, {256, 2, []Piece[int]{{255, 255, 1}}},
		{math.MaxInt32, 2, []Piece[int]{{500, 500, 1}}},
	} {
		if b := Build(x.size, 0, x.l...).Blocks(); b != x.blocks {
			t.Errorf("%d, %v: %d blocks", x.size, x.l, b)
		}
	}
}

// Promises 3.1 to 3.4: pieces by chance, against what each number has.
func TestAny(t *testing.T) {
	chance := rand.New(rand.NewSource(3))
	for range 500 {
		size := 1 + chance.Intn(700)
		var l []Piece[int]
		for range chance.Intn(8) {
			from := chance.Intn(700) - 20
			l = append(l, Piece[int]{from, from + chance.Intn(300) - 3, chance.Intn(3)})
		}
		x := Build(size, 1, l...)
		var want []int
		for i := range size {
			at := slices.IndexFunc(l, func(p Piece[int]) bool { return p.From <= i && i <= p.To })
			if at < 0 {
				want = append(want, 1)
			} else {
				want = append(want, l[at].Value)
			}
		}
		blocks := map[[Wide]int]bool{}
		for i := 0; i < size; i += Wide {
			var b [Wide]int
			for k := range b {
				b[k] = want[min(i+k, size-1)]
			}
			blocks[b] = true
		}
		if x.Len() != size || x.Blocks() != len(blocks) {
			t.Fatalf("%d, %v: %d, %d blocks, not %d", size, l, x.Len(), x.Blocks(), len(blocks))
		}
		pieces := x.Pieces()
		again := Build(size, 9, pieces...)
		for i, v := range want {
			if x.Get(i) != v || again.Get(i) != v {
				t.Fatalf("%d, %v: %d has %d, %d, not %d", size, l, i, x.Get(i), again.Get(i), v)
			}
		}
		for i, p := range pieces {
			if i == 0 && p.From != 0 || i > 0 && (pieces[i-1].To+1 != p.From || pieces[i-1].Value == p.Value) || i == len(pieces)-1 && p.To != size-1 {
				t.Fatalf("%d, %v: %v", size, l, pieces)
			}
		}
	}
}
