package delta

import (
	"math/rand"
	"slices"
	"strconv"
	"strings"
	"testing"

	"typebar/api"
	"typebar/compose"
	"typebar/decomp"
	"typebar/seg"
	"typebar/ucd"
)

// tell tells steps as text.
func tell(l []Step) string {
	var out []string
	for _, x := range l {
		out = append(out, map[int]string{Keep: "=", Drop: "-", Add: "+"}[x.Kind]+strconv.Itoa(x.N)+string(x.Text))
	}
	return strings.Join(out, " ")
}

// Promise 50.1: the example, and others.
func TestOf(t *testing.T) {
	x := ucd.Build(api.Rows())
	for _, want := range []struct {
		from, to, steps string
		cost            int
	}{
		{"abc", "axc", "=1a -1b +1x =1c", 2}, {"", "", "", 0}, {"", "ab", "+2ab", 2}, {"ab", "", "-2ab", 2}, {"ab", "ab", "=2ab", 0}, {"abcd", "bd", "-1a =1b -1c =1d", 2}, {"bd", "abcd", "+1a =1b +1c =1d", 2}, {"ab", "ba", "-1a =1b +1a", 2}, {"e\u0301x", "\u00E9y", "=1\u00E9 -1x +1y", 2}, {"e", "e\u0301", "-1e +1\u00E9", 2}, {"aab", "ab", "=1a -1a =1b", 1}, {"xaby", "ab", "-1x =2ab -1y", 2},
	} {
		l, err := Of(x, []rune(want.from), []rune(want.to))
		if tell(l) != want.steps || err != api.OK || Cost(l) != want.cost {
			t.Errorf("%q, %q: %s %d, %d", want.from, want.to, tell(l), Cost(l), err)
		}
	}
	if MaxCells != 1<<20 || Keep != 0 || Drop != 1 || Add != 2 {
		t.Error("numbers")
	}
	a := slices.Repeat([]rune{'a'}, 1023)
	if l, err := Of(x, a, a); tell(l) != "=1023"+string(a) || err != api.OK {
		t.Error(err)
	}
	if l, err := Of(x, append(a, 'b'), a); l != nil || err != api.ErrLimit {
		t.Error(err)
	}
	if l, err := Of(x, a, append(a, 0x301)); len(l) != 3 || err != api.OK {
		t.Error(tell(l), err)
	}
	if l, err := Of(x, nil, slices.Repeat([]rune{'a'}, MaxCells-1)); Cost(l) != MaxCells-1 || err != api.OK {
		t.Error(err)
	}
	if l, err := Of(x, slices.Repeat([]rune{'a'}, MaxCells), nil); l != nil || err != api.ErrLimit {
		t.Error(err)
	}
	if l, _ := Of(x, []rune{0xD800}, []rune{0xFFFD}); Cost(l) != 2 {
		t.Error("what is no scalar is taken for Bad")
	}
}

// Promise 50.2.
func TestDo(t *testing.T) {
	x := ucd.Build(api.Rows())
	steps := func(l ...Step) []Step { return l }
	step := func(kind int, s string) Step { return Step{kind, 1, []rune(s)} }
	for _, want := range []struct {
		l     string
		steps []Step
		out   string
		ok    bool
	}{
		{"abc", steps(step(Keep, "a"), step(Drop, "b"), step(Add, "x"), step(Keep, "c")), "axc", true}, {"", nil, "", true}, {"a", nil, "", false}, {"ab", steps(step(Keep, "a")), "a", false}, {"ab", steps(step(Keep, "b")), "", false}, {"ab", steps(step(Drop, "abc")), "", false}, {"ab", steps(step(Keep, "ab"), Step{3, 0, nil}), "", false}, {"ab", steps(step(Keep, "ab"), Step{-1, 0, nil}), "", false}, {"e\u0301", steps(step(Keep, "\u00E9")), "\u00E9", true}, {"\u00E9", steps(step(Keep, "e\u0301")), "", false}, {"a", steps(step(Drop, ""), step(Drop, "a"), step(Add, "")), "", true},
	} {
		out, ok := Do(x, []rune(want.l), want.steps)
		if string(out) != want.out || ok != want.ok {
			t.Errorf("%q, %s: %q %v", want.l, tell(want.steps), string(out), ok)
		}
	}
	l := steps(step(Keep, "a"), step(Drop, "b"), step(Add, "c"), Step{9, 5, nil})
	back := Back(l)
	if back[0].Kind != Keep || back[1].Kind != Add || back[2].Kind != Drop || back[3].Kind != 9 || back[3].N != 5 || string(back[1].Text) != "b" || l[1].Kind != Drop {
		t.Error(back)
	}
	if Cost(l) != 7 || Cost(nil) != 0 || len(Back(nil)) != 0 {
		t.Error(Cost(l))
	}
}

// cost tells the least cost, trying all ways.
func cost(a, b [][]rune) int {
	if len(a) == 0 || len(b) == 0 {
		return len(a) + len(b)
	}
	if slices.Equal(a[0], b[0]) {
		return cost(a[1:], b[1:])
	}
	return 1 + min(cost(a[1:], b), cost(a, b[1:]))
}

// Promises 50.1 to 50.3: texts by chance.
func TestAny(t *testing.T) {
	x := ucd.Build(api.Rows())
	chance := rand.New(rand.NewSource(50))
	text := func() []rune {
		l := make([]rune, chance.Intn(8))
		for i := range l {
			l[i] = []rune{'a', 'b', 'e', 0x301, 0xE9}[chance.Intn(5)]
		}
		return l
	}
	for range 5000 {
		from, to := text(), text()
		l, err := Of(x, from, to)
		is, ok := Do(x, from, l)
		was, back := Do(x, decomp.NFD(x, to), Back(l))
		if err != api.OK || !ok || !back || !slices.Equal(is, compose.NFC(x, to)) || !slices.Equal(was, compose.NFC(x, from)) {
			t.Fatalf("%q, %q: %s", string(from), string(to), tell(l))
		}
		a, b := seg.Clusters(x, compose.NFC(x, from)), seg.Clusters(x, compose.NFC(x, to))
		if Cost(l) != cost(a, b) || Cost(Back(l)) != Cost(l) {
			t.Fatalf("%q, %q: %s costs more than %d", string(from), string(to), tell(l), cost(a, b))
		}
		for i, s := range l {
			if s.N != len(seg.Clusters(x, s.Text)) || s.N == 0 || i > 0 && l[i-1].Kind == s.Kind {
				t.Fatalf("%q, %q: %s", string(from), string(to), tell(l))
			}
		}
	}
}
