package complete

import (
	"math"
	"math/rand"
	"slices"
	"strings"
	"testing"

	"typebar/api"
	"typebar/compose"
	"typebar/decomp"
	"typebar/seg"
	"typebar/ucd"
)

// texts reads texts with blanks between them; "-" is the empty one.
func texts(s string) [][]rune {
	var out [][]rune
	for _, f := range strings.Fields(s) {
		if f == "-" {
			f = ""
		}
		out = append(out, []rune(f))
	}
	return out
}

func tell(l [][]rune) string {
	var out []string
	for _, x := range l {
		if len(x) == 0 {
			x = []rune("-")
		}
		out = append(out, string(x))
	}
	return strings.Join(out, " ")
}

// Promise 44.1.
func TestBeginsAndCommon(t *testing.T) {
	x := ucd.Build(api.Rows())
	for _, want := range []struct {
		l, with string
		is      bool
	}{{"abc", "ab", true}, {"abc", "abc", true}, {"abc", "abcd", false}, {"abc", "", true}, {"", "", true}, {"", "a", false}, {"e\u0301a", "\u00E9", true}, {"\u00E9a", "e", false}, {"e\u0301", "e", false}, {"e\u0323\u0301", "e\u0301\u0323", true}} {
		if Begins(x, []rune(want.l), []rune(want.with)) != want.is {
			t.Errorf("%q, %q: %v", want.l, want.with, !want.is)
		}
	}
	for s, want := range map[string]string{"": "", "abc": "abc", "abc abd": "ab", "abc x": "", "abc -": "", "\u00E9a e\u0301b": "\u00E9", "\u00E9 e": "", "ab abc a": "a"} {
		if c := Common(x, texts(s)); string(c) != want {
			t.Errorf("%q: %q", s, string(c))
		}
	}
}

// Promise 44.2.
func TestWord(t *testing.T) {
	x := ucd.Build(api.Rows())
	for _, want := range []struct {
		line, words string
		at          int
		from        int
		text, found string
		ok          bool
	}{
		{"go fo", "foo fob bar", 5, 3, "fo", "foo fob", true}, {"go fo", "foo fob bar", 4, 3, "fo", "foo fob", true}, {"go fo", "foo fob bar", 3, 3, "", "foo fob bar", true}, {"go ", "xa xb xa", 3, 3, "x", "xa xb", true}, {"", "ab", 0, 0, "ab", "ab", true}, {"fo", "bar", 2, 0, "", "", false}, {"fo", "", 2, 0, "", "", false}, {"fo", "foo", 3, 0, "", "", false}, {"fo", "foo", -1, 0, "", "", false},
		{"a,b", "bc bc bd", 3, 2, "b", "bc bd", true}, {"a-", "b", 2, 2, "b", "b", true}, {"e\u0301", "\u00E9a e\u0301a e\u0301b", 2, 0, "\u00E9", "\u00E9a \u00E9b", true}, {"xe\u0301", "xe xea", 2, 0, "xe", "xe xea", true}, {"foo", "foo", 3, 0, "foo", "foo", true},
	} {
		a, ok := Word(x, []rune(want.line), want.at, texts(want.words))
		to := want.at
		if !want.ok {
			to = 0
		}
		if a.From != want.from || a.To != to || string(a.Text) != want.text || tell(a.Words) != want.found || ok != want.ok || !ok && (a.Words != nil || a.Text != nil) {
			t.Errorf("%q at %d, %q: %v %v", want.line, want.at, want.words, a, ok)
		}
	}
	if _, ok := Word(x, nil, math.MaxInt, texts("a")); ok {
		t.Error("a far place")
	}
}

// Promises 44.1, 44.2 and 44.6: what comes by chance.
func TestAny(t *testing.T) {
	x := ucd.Build(api.Rows())
	chance := rand.New(rand.NewSource(44))
	signs := []rune{'a', 'b', 'e', 0x301, 0xE9, 0x323, ' '}
	text := func(most, kinds int) []rune {
		l := make([]rune, chance.Intn(most))
		for i := range l {
			l[i] = signs[chance.Intn(kinds)]
		}
		return l
	}
	for range 10000 {
		line := text(7, len(signs))
		words := [][]rune{text(4, 6), text(4, 6), text(4, 6), text(4, 6)}
		at := chance.Intn(len(line) + 1)
		a, ok := Word(x, line, at, words)
		if ok {
			part := line[a.From:at]
			for _, w := range a.Words {
				if !Begins(x, w, a.Text) || !Begins(x, w, part) {
					t.Fatalf("%q: %v", string(line), a)
				}
			}
			if !Begins(x, a.Text, part) || a.To != at {
				t.Fatalf("%q: %v", string(line), a)
			}
		}
		if Begins(x, words[0], words[1]) != Begins(x, decomp.NFD(x, words[0]), compose.NFC(x, words[1])) {
			t.Fatalf("%q, %q", string(words[0]), string(words[1]))
		}
		long := Common(x, words)
		for _, w := range words {
			if !Begins(x, w, long) {
				t.Fatalf("%q: %q", words, string(long))
			}
		}
		first := seg.Clusters(x, compose.NFC(x, words[0]))
		if n := len(seg.Clusters(x, long)); n < len(first) {
			more := slices.Concat(first[:n+1]...)
			if !slices.ContainsFunc(words, func(w []rune) bool { return !Begins(x, w, more) }) {
				t.Fatalf("%q: more than %q", words, string(long))
			}
		}
	}
}

// Promise 44.3.
func TestDo(t *testing.T) {
	x := ucd.Build(api.Rows())
	if l, at, err := (Answer{From: 3, To: 5, Text: []rune("foo")}).Do(x, []rune("go fo x")); string(l) != "go foo x" || at != 6 || err != api.OK {
		t.Error(string(l), at, err)
	}
	for _, a := range []Answer{{From: -1, To: 1}, {From: 2, To: 1}, {From: 0, To: 4}, {From: math.MinInt, To: math.MaxInt}} {
		if l, at, err := a.Do(x, []rune("abc")); l != nil || at != 0 || err != api.ErrRange {
			t.Error(a, err)
		}
	}
	if l, at, err := (Answer{From: 0, To: 3, Text: []rune("x")}).Do(x, []rune("abc")); string(l) != "x" || at != 1 || err != api.OK {
		t.Error(string(l), at, err)
	}
	long := slices.Repeat([]rune{'a'}, api.MaxText)
	if l, at, err := (Answer{From: 1, To: 1, Text: []rune("b")}).Do(x, long); l != nil || at != 0 || err != api.ErrFull {
		t.Error(len(l), at, err)
	}
	if l, at, err := (Answer{From: 1, To: 2, Text: []rune("b")}).Do(x, long); len(l) != api.MaxText || at != 2 || err != api.OK || long[1] != 'a' {
		t.Error(len(l), at, err)
	}
}

// Promise 44.4.
func TestHint(t *testing.T) {
	x := ucd.Build(api.Rows())
	for _, want := range []struct {
		line, lines, hint string
		ok                bool
	}{{"go", "x go gone goes", "ne", true}, {"go", "xyz gone", "ne", true}, {"go", "go", "", false}, {"", "go", "", false}, {"e\u0301", "\u00E9 e\u0301x", "x", true}, {"e", "e\u0301 ex", "x", true}, {"a", "- ab", "b", true}, {"a", "", "", false}} {
		if h, ok := Hint(x, []rune(want.line), texts(want.lines)); string(h) != want.hint || ok != want.ok || !ok && h != nil {
			t.Errorf("%q, %q: %q %v", want.line, want.lines, string(h), ok)
		}
	}
}

// Promise 44.5.
func TestMenu(t *testing.T) {
	x := ucd.Build(api.Rows())
	var none Menu
	l, at := none.All()
	w, ok := none.Word()
	if len(l) != 0 || at != 0 || w != nil || ok {
		t.Error("the menu of no words")
	}
	if l, at = none.Step(5).Narrow(x, nil).All(); len(l) != 0 || at != 0 {
		t.Error(l, at)
	}
	m := NewMenu(texts("ab b ac a"))
	for n, want := range map[int]int{0: 0, 1: 1, 3: 3, 4: 0, -1: 3, -5: 3, 401: 1, math.MaxInt: 3, math.MinInt: 0} {
		if _, at := m.Step(n).All(); at != want {
			t.Error(n, at)
		}
		if _, at := m.Step(1).Step(n).All(); at != (want+1)%4 {
			t.Error(n, at)
		}
	}
	for _, want := range []struct {
		step  int
		with  string
		words string
		at    int
	}{{0, "a", "ab ac a", 0}, {2, "a", "ab ac a", 1}, {3, "a", "ab ac a", 2}, {1, "a", "ab ac a", 0}, {1, "", "ab b ac a", 1}, {2, "x", "", 0}, {2, "ac", "ac", 0}} {
		l, at := m.Step(want.step).Narrow(x, []rune(want.with)).All()
		if tell(l) != want.words || at != want.at {
			t.Errorf("%d, %q: %s %d", want.step, want.with, tell(l), at)
		}
	}
	words := texts("ab")
	m = NewMenu(words)
	words[0][0] = 'x'
	l, _ = m.All()
	l[0][0] = 'y'
	w, _ = m.Word()
	w[0] = 'z'
	if w, ok = m.Word(); string(w) != "ab" || !ok {
		t.Error("a menu shares memory")
	}
}
