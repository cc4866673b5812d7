package gap

import (
	"math"
	"math/rand"
	"slices"
	"testing"
)

// Promises 14.1 and 14.2: changes by chance, against a plain list.
func TestAny(t *testing.T) {
	chance := rand.New(rand.NewSource(14))
	for range 300 {
		var want []int
		for range chance.Intn(5) {
			want = append(want, 1+chance.Intn(100))
		}
		g := New(want...)
		want = slices.Clone(want)
		for range 60 {
			from := chance.Intn(len(want) + 1)
			to := from + chance.Intn(len(want)-from+1)
			var ins []int
			for range chance.Intn(6) {
				ins = append(ins, 1+chance.Intn(100))
			}
			kept := slices.Clone(ins)
			if !g.Splice(from, to, ins...) || !slices.Equal(ins, kept) {
				t.Fatal("it was not put")
			}
			want = slices.Replace(want, from, to, ins...)
			check(t, g, want)
		}
	}
}

func check(t *testing.T, g *Gap[int], want []int) {
	if g.Len() != len(want) || !slices.Equal(g.All(), want) {
		t.Fatalf("%v, not %v", g.All(), want)
	}
	for i := -2; i < len(want)+2; i++ {
		x, ok := g.At(i)
		if is := i >= 0 && i < len(want); ok != is || is && x != want[i] || !is && x != 0 {
			t.Fatalf("%v at %d: %d %v", want, i, x, ok)
		}
		for to := -2; to < len(want)+2; to++ {
			var part []int
			if a, b := max(i, 0), min(to, len(want)); a < b {
				part = want[a:b]
			}
			if l := g.Slice(i, to); !slices.Equal(l, part) {
				t.Fatalf("%v from %d to %d: %v", want, i, to, l)
			}
		}
	}
	for i := g.from; i < g.to; i++ {
		if g.all[i] != 0 {
			t.Fatalf("what was taken out is kept: %v, the gap from %d to %d", g.all, g.from, g.to)
		}
	}
}

// Promise 14.2: what is refused changes nothing.
func TestRefused(t *testing.T) {
	g := New(1, 2, 3)
	for _, at := range [][2]int{{-1, 1}, {2, 1}, {0, 4}, {4, 4}, {math.MinInt, math.MaxInt}, {math.MaxInt, math.MinInt}} {
		if g.Splice(at[0], at[1], 9) || !slices.Equal(g.All(), []int{1, 2, 3}) {
			t.Error(at, g.All())
		}
	}
	if !g.Splice(1, 2, 7, 8) || !slices.Equal(g.All(), []int{1, 7, 8, 3}) {
		t.Error(g.All())
	}
	if l := g.Slice(math.MinInt, math.MaxInt); len(l) != 4 {
		t.Error(l)
	}
	g.All()[0] = 99
	if x, _ := g.At(0); x != 1 {
		t.Error("what is told shares memory with the list")
	}
	l := []int{1, 2}
	g = New(l...)
	if l[0] = 5; g.All()[0] != 1 {
		t.Error("what was handed in is kept")
	}
}

// Promises 14.1 and 14.2: nil lists, and things of another type.
func TestNil(t *testing.T) {
	var g *Gap[string]
	x, ok := g.At(0)
	if g.Len() != 0 || x != "" || ok || g.Splice(0, 0) || g.Splice(0, 0, "a") || len(g.All()) != 0 || len(g.Slice(0, 5)) != 0 {
		t.Error("a nil list has something")
	}
	g = New[string]()
	if !g.Splice(0, 0, "b", "c") || !g.Splice(1, 1, "x") || !slices.Equal(g.All(), []string{"b", "x", "c"}) {
		t.Error(g.All())
	}
}
