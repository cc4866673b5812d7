package shift

import (
	"math"
	"math/rand"
	"slices"
	"testing"

	"typebar/local"
)

func text(chance *rand.Rand, most int) []rune {
	l := make([]rune, chance.Intn(most))
	for i := range l {
		l[i] = 'a' + rune(chance.Intn(2))
	}
	return l
}

// Promise 16.1.
func TestKeep(t *testing.T) {
	w := local.Window{From: 1, Was: 3, Is: 2}
	for at, want := range []int{0, 1, 1, 2, 3, 4} {
		if k := Keep(w, at); k != want {
			t.Errorf("%d: %d", at, k)
		}
	}
	if Keep(w, -5) != -5 || Keep(local.Window{From: 2, Was: 2, Is: 4}, 2) != 2 || Keep(local.Window{From: 2, Was: 2, Is: 4}, 3) != 5 {
		t.Error("edges")
	}
}

// Promise 16.2: the examples, and windows that cannot be.
func TestAfter(t *testing.T) {
	for _, x := range []struct {
		was, is string
		w       local.Window
		to, at  int
	}{
		{"abcd", "aXd", local.Window{From: 1, Was: 3, Is: 2}, 1, 2}, {"abcd", "axcd", local.Window{From: 0, Was: 4, Is: 4}, 2, 2}, {"abcd", "axcd", local.Window{From: 0, Was: 4, Is: 4}, 3, 3}, {"abcd", "axcd", local.Window{From: 0, Was: 4, Is: 4}, 4, 4},
		{"abcd", "axcd", local.Window{From: 0, Was: 4, Is: 4}, 0, 2}, {"aaaa", "aa", local.Window{From: 1, Was: 4, Is: 2}, 1, 1}, {"", "", local.Window{}, 0, 0}, {"aaaa", "aa", local.Window{From: 0, Was: 9, Is: 2}, 0, 2}, {"aaaa", "aa", local.Window{From: 0, Was: 4, Is: 9}, 0, 9},
		{"aaaa", "aa", local.Window{From: -3, Was: 4, Is: 2}, -3, 0}, {"aaaa", "aa", local.Window{From: math.MinInt, Was: math.MinInt, Is: math.MinInt}, math.MinInt, math.MinInt},
	} {
		if at := After([]rune(x.was), []rune(x.is), x.w, x.to); at != x.at {
			t.Errorf("%q, %q, %v, %d: %d", x.was, x.is, x.w, x.to, at)
		}
	}
}

// Promises 16.1 to 16.4: changes by chance.
func TestAny(t *testing.T) {
	chance := rand.New(rand.NewSource(16))
	for range 20000 {
		was, ins := text(chance, 9), text(chance, 5)
		from := chance.Intn(len(was) + 1)
		end := from + chance.Intn(len(was)-from+1)
		is := slices.Concat(was[:from], ins, was[end:])
		w := local.Window{From: from, Was: end, Is: from + len(ins)}
		to := from + chance.Intn(end-from+1)
		same := 0
		for end-same > to && w.Is-same > from && was[end-same-1] == is[w.Is-same-1] {
			same++
		}
		if at := After(was, is, w, to); at != w.Is-same {
			t.Fatalf("%q, %q, %v, %d: %d", string(was), string(is), w, to, at)
		}
		e := Of(was, is, w)
		if e.At != from || !slices.Equal(e.Old, was[from:end]) || !slices.Equal(e.New, ins) || e.Window() != w {
			t.Fatal(e)
		}
		now, ok := e.Do(was)
		again, is2 := e.Back().Do(is)
		if !ok || !is2 || !slices.Equal(now, is) || !slices.Equal(again, was) || e.Back().Window() != (local.Window{From: from, Was: w.Is, Is: end}) {
			t.Fatal(e, now, again)
		}
		for at := range len(was) + 1 {
			k := Keep(w, at)
			if at < from && is[k] != was[at] || at > end && is[k-1] != was[at-1] {
				t.Fatalf("%q, %q, %v: %d is at %d", string(was), string(is), w, at, k)
			}
		}
	}
}

// Promise 16.3: what does not fit.
func TestDo(t *testing.T) {
	l := []rune("abc")
	for _, e := range []Edit{{-1, nil, nil}, {4, nil, nil}, {3, []rune("c"), nil}, {1, []rune("x"), nil}, {math.MaxInt, []rune("a"), nil}, {math.MinInt, nil, nil}, {0, []rune("abcd"), nil}} {
		if now, ok := e.Do(l); ok || now != nil {
			t.Errorf("%v: %q", e, string(now))
		}
	}
	if now, ok := (Edit{3, nil, []rune("d")}).Do(l); !ok || string(now) != "abcd" {
		t.Error(string(now), ok)
	}
	if now, ok := (Edit{}).Do(nil); !ok || len(now) != 0 {
		t.Error(now, ok)
	}
	for _, w := range []local.Window{{From: 2, Was: 1, Is: 9}, {From: -1, Was: 1, Is: 1}, {From: 2, Was: 1, Is: 2}, {From: 0, Was: 4, Is: 1}, {From: 2, Was: 2, Is: 1}, {From: 1, Was: 2, Is: 4}, {From: math.MinInt, Was: math.MaxInt, Is: math.MinInt}} {
		if e := Of(l, l, w); e.At != 0 || e.Old != nil || e.New != nil {
			t.Error("a window that cannot be", w)
		}
	}
}
