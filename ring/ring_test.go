package ring

import (
	"math/rand"
	"slices"
	"testing"

	"typebar/api"
)

// same tells whether a ring has just these texts, and this one on top.
func same(r Ring, want []string, top int) bool {
	l, at := r.All()
	s, ok := r.Top()
	if len(l) != len(want) || at != top || ok != (len(want) > 0) || ok && string(s) != want[top] || !ok && s != nil {
		return false
	}
	for i, x := range l {
		if string(x) != want[i] {
			return false
		}
	}
	return true
}

// Promises 18.1 to 18.3: what comes by chance.
func TestAny(t *testing.T) {
	chance := rand.New(rand.NewSource(18))
	for range 200 {
		var r Ring
		var want []string
		top := 0
		for i := range 150 {
			was, texts, at := r, slices.Clone(want), top
			s := string(rune('a' + i%26))
			switch k := chance.Intn(6); {
			case k < 3 || k < 5 && len(want) == 0:
				if r = r.Add([]rune(s)); k == 1 {
					r = was.Join([]rune(s), true)
				}
				if want, top = slices.Insert(want, 0, s), 0; k == 1 && len(want) > 1 {
					want = want[1:]
					want[0] = s + want[0]
				}
				if len(want) > api.MaxKills {
					want = want[:api.MaxKills]
				}
			case k == 3:
				r = r.Join([]rune(s), false)
				want[0] += s
				top = 0
			default:
				r = r.Turn()
				if len(want) > 0 {
					top = (top + 1) % len(want)
				}
			}
			if !same(r, want, top) || !same(was, texts, at) {
				l, n := r.All()
				t.Fatal(l, n, want, top)
			}
		}
		turned := r
		for range want {
			turned = turned.Turn()
		}
		if !same(turned, want, top) {
			t.Fatal("as many turns as texts")
		}
	}
}

// Promises 18.1 and 18.2: the example, the limit, the empty ring, and memory of its own.
func TestEdges(t *testing.T) {
	var r Ring
	if !same(r, nil, 0) || !same(r.Turn(), nil, 0) || !same(r.Join([]rune("x"), true), []string{"x"}, 0) || !same(r.Add(nil), []string{""}, 0) {
		t.Error("the empty ring")
	}
	r = r.Add([]rune("a")).Add([]rune("b"))
	if !same(r, []string{"b", "a"}, 0) || !same(r.Turn(), []string{"b", "a"}, 1) || !same(r.Turn().Turn(), []string{"b", "a"}, 0) || !same(r.Turn().Join([]rune("c"), false), []string{"bc", "a"}, 0) || !same(r.Turn().Join([]rune("c"), true), []string{"cb", "a"}, 0) {
		t.Error("the example")
	}
	s := []rune("abc")
	r = r.Add(s)
	s[0] = 'x'
	l, _ := r.All()
	l[1][0] = 'x'
	top, _ := r.Top()
	top[1] = 'x'
	if !same(r, []string{"abc", "b", "a"}, 0) {
		t.Error("a ring shares memory")
	}
	var many Ring
	for i := range api.MaxKills + 5 {
		many = many.Add([]rune{rune(i)})
	}
	if l, _ = many.All(); len(l) != api.MaxKills || l[0][0] != api.MaxKills+4 || l[api.MaxKills-1][0] != 5 {
		t.Error(len(l))
	}
}
