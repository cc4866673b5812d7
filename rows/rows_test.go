package rows

import (
	"math"
	"math/rand"
	"slices"
	"testing"

	"typebar/api"
)

func row(kind, from, to, a, b int) api.Row {
	return api.Row{Kind: kind, From: from, To: to, A: a, B: b}
}

// Promise 2.1.
func TestOf(t *testing.T) {
	for _, x := range []struct {
		name string
		l    []api.Row
		want []Span
	}{
		{"none", nil, nil},
		{"the first one counts", []api.Row{row(1, 5, 9, 7, 0), row(1, 8, 12, 8, 0)}, []Span{{5, 9, 7, 0}, {10, 12, 8, 0}}},
		{"the first one counts, though it lies within", []api.Row{row(1, 5, 6, 7, 0), row(1, 1, 9, 8, 0)}, []Span{{1, 4, 8, 0}, {5, 6, 7, 0}, {7, 9, 8, 0}}},
		{"another kind", []api.Row{row(2, 5, 9, 7, 0)}, nil},
		{"what is outside", []api.Row{row(1, -9, 2, 7, 0), row(1, api.MaxScalar, math.MaxInt, 3, 0), row(1, -9, -1, 1, 1), row(1, api.MaxScalar+1, api.MaxScalar+2, 1, 1)}, []Span{{0, 2, 7, 0}, {api.MaxScalar, api.MaxScalar, 3, 0}}},
		{"rows that have nothing", []api.Row{row(1, 9, 5, 7, 0), row(1, 6, 7, 2, 2)}, []Span{{6, 7, 2, 2}}},
		{"spans that meet", []api.Row{row(1, 5, 9, 7, 1), row(1, 10, 12, 7, 1), row(1, 13, 13, 7, 2), row(1, 15, 15, 7, 2)}, []Span{{5, 12, 7, 1}, {13, 13, 7, 2}, {15, 15, 7, 2}}},
		{"values of 0", []api.Row{row(1, 5, 6, 0, 0), row(1, 5, 7, 1, 0)}, []Span{{5, 6, 0, 0}, {7, 7, 1, 0}}},
		{"any numbers", []api.Row{row(1, math.MinInt, math.MaxInt, math.MaxInt, math.MinInt)}, []Span{{0, api.MaxScalar, math.MaxInt, math.MinInt}}},
	} {
		if l := Of(x.l, 1); !slices.Equal(l, x.want) {
			t.Errorf("%s: %v", x.name, l)
		}
	}
}

// Promises 2.1 to 2.3: rows by chance, against what each scalar has.
func TestOfAny(t *testing.T) {
	chance := rand.New(rand.NewSource(2))
	for range 2000 {
		var l []api.Row
		for range chance.Intn(8) {
			from := chance.Intn(30) - 3
			l = append(l, api.Row{Kind: 1 + chance.Intn(2), From: from, To: from + chance.Intn(10) - 1, A: chance.Intn(2), B: chance.Intn(2)})
		}
		kept := slices.Clone(l)
		spans := Of(l, 1)
		if !slices.Equal(kept, l) {
			t.Fatal("the rows were changed")
		}
		size := 0
		for r := rune(-5); r < 50; r++ {
			var want Span
			has := false
			for _, x := range l {
				if !has && x.Kind == 1 && r >= 0 && x.From <= int(r) && int(r) <= x.To {
					want, has = Span{0, 0, x.A, x.B}, true
				}
			}
			if has {
				size++
			}
			x, ok := At(spans, r)
			if ok != has || ok && (x.A != want.A || x.B != want.B || int(r) < x.From || int(r) > x.To) || !ok && x != (Span{}) {
				t.Fatalf("%v: %v at %d: %v %v", l, spans, r, x, ok)
			}
		}
		if Size(spans) != size {
			t.Fatalf("%v: %d", spans, Size(spans))
		}
		for i := 1; i < len(spans); i++ {
			a, b := spans[i-1], spans[i]
			if a.To >= b.From || a.To+1 == b.From && a.A == b.A && a.B == b.B {
				t.Fatalf("%v", spans)
			}
		}
	}
}

// Promise 2.2.
func TestAtSizeKinds(t *testing.T) {
	l := Of(api.Rows(), api.KindClass)
	if x, ok := At(l, 0x301); !ok || x.A != 230 || x.From != 0x300 || x.To != 0x314 {
		t.Error(x, ok)
	}
	if x, ok := At(nil, 5); ok || x != (Span{}) {
		t.Error(x, ok)
	}
	if x, ok := At(l, -1); ok || x != (Span{}) {
		t.Error(x, ok)
	}
	if Size(nil) != 0 || Size([]Span{{5, 9, 7, 0}, {10, 12, 8, 0}}) != 8 {
		t.Error("sizes")
	}
	if k := Kinds(api.Rows()); !slices.Equal(k, []int{1, 2, 3, 4, 5, 6, 7, 8}) {
		t.Error(k)
	}
	if k := Kinds([]api.Row{row(9, 1, 0, 0, 0), row(-4, 0, 0, 0, 0), row(9, 0, 0, 0, 0)}); !slices.Equal(k, []int{-4, 9}) {
		t.Error(k)
	}
	if len(Kinds(nil)) != 0 {
		t.Error("kinds of no rows")
	}
}

// Rule R1: a great many rows come to an end.
func TestManyRows(t *testing.T) {
	var l []api.Row
	for i := range 50000 {
		l = append(l, row(1, 50000-i, 50000+i, i, 0))
	}
	if n := len(Of(l, 1)); n != 99999 {
		t.Error(n)
	}
}
