package glob

import (
	"math/rand"
	"slices"
	"strings"
	"testing"

	"typebar/api"
	"typebar/compose"
	"typebar/decomp"
	"typebar/seg"
	"typebar/ucd"
)

// tell tells parts as text.
func tell(l []Part) string {
	var out []string
	for _, p := range l {
		switch p.Kind {
		case Any:
			out = append(out, "any")
		case Many:
			out = append(out, "many")
		default:
			out = append(out, string(p.Cluster))
		}
	}
	return strings.Join(out, " ")
}

// Promise 43.1.
func TestParse(t *testing.T) {
	x := ucd.Build(api.Rows())
	for _, want := range []struct {
		s, parts string
		err      api.Errno
	}{
		{"", "", 0}, {"a*c", "a many c", 0}, {"**a***", "many a many", 0}, {"*?*", "many any many", 0}, {"??", "any any", 0}, {`\*\?\\`, `* ? \`, 0}, {"e\u0301", "\u00E9", 0}, {`e\` + "\u0301", "\u00E9", 0}, {"e*\u0301", "e many \u0301", 0}, {"e?\u0301x", "e any \u0301 x", 0}, {`\a\`, "", api.ErrForm}, {`\`, "", api.ErrForm}, {`*\\\`, "", api.ErrForm},
		{"\u1100\u1161\u11A8b", "\uAC01 b", 0}, {`a\*b`, "a * b", 0},
	} {
		p, err := Parse(x, []rune(want.s))
		if tell(p.Parts()) != want.parts || err != want.err {
			t.Errorf("%q: %q %d", want.s, tell(p.Parts()), err)
		}
	}
	if MaxParts != 1000 {
		t.Error("the limit")
	}
	p, err := Parse(x, slices.Repeat([]rune{'?', 'a'}, MaxParts/2))
	if len(p.Parts()) != MaxParts || err != api.OK {
		t.Error(len(p.Parts()), err)
	}
	long := slices.Repeat([]rune{'?'}, MaxParts+1)
	if p, err := Parse(x, long); len(p.Parts()) != 0 || err != api.ErrLimit {
		t.Error(err)
	}
	if _, err := Parse(x, append(long, '\\')); err != api.ErrForm {
		t.Error(err)
	}
	if p, err := Parse(x, slices.Repeat([]rune{'*'}, 5000)); len(p.Parts()) != 1 || err != api.OK {
		t.Error(err)
	}
	p, _ = Parse(x, []rune("a"))
	if p.Parts()[0].Cluster[0] = 'b'; tell(p.Parts()) != "a" {
		t.Error("parts share memory with the pattern")
	}
}

// Promise 43.2: the examples, and others.
func TestFits(t *testing.T) {
	x := ucd.Build(api.Rows())
	for _, want := range []struct {
		pattern, text string
		is            bool
	}{
		{"a*c", "ac", true}, {"a*c", "abbc", true}, {"a*c", "acb", false}, {"?", "e\u0301", true}, {"?", "ea", false}, {"?", "", false}, {"*", "", true}, {"*", "abc", true}, {"", "", true}, {"", "a", false}, {"*a", "ba", true}, {"*ab*", "aab", true}, {"*aab", "aaab", true}, {"a*b*c", "abcbd", false}, {"a*b*c", "axbxbxc", true}, {"\u00E9", "e\u0301", true}, {"e", "e\u0301", false}, {"e*", "e\u0301", false}, {"*?b", "b", false}, {"?*?", "ab", true}, {"?*?", "a", false},
	} {
		p, _ := Parse(x, []rune(want.pattern))
		if p.Fits(x, []rune(want.text)) != want.is {
			t.Errorf("%q, %q: %v", want.pattern, want.text, !want.is)
		}
	}
	if !(Pattern{}).Fits(x, nil) || (Pattern{}).Fits(x, []rune("a")) || len(Pattern{}.Parts()) != 0 {
		t.Error("the pattern of no parts")
	}
	p, _ := Parse(x, []rune("a*"))
	l := [][]rune{[]rune("ab"), []rune("b"), nil, []rune("a")}
	chosen := p.Choose(x, l)
	if len(chosen) != 2 || string(chosen[0]) != "ab" || string(chosen[1]) != "a" {
		t.Error(chosen)
	}
	if chosen[0][0] = 'x'; l[0][0] != 'a' || len(p.Choose(x, nil)) != 0 {
		t.Error("what was chosen shares memory with the texts")
	}
}

// deal tells whether clusters can be dealt out to parts, trying all ways.
func deal(parts []Part, clusters [][]rune) bool {
	if len(parts) == 0 {
		return len(clusters) == 0
	}
	switch p := parts[0]; p.Kind {
	case Many:
		return deal(parts[1:], clusters) || len(clusters) > 0 && deal(parts, clusters[1:])
	case Any:
		return len(clusters) > 0 && deal(parts[1:], clusters[1:])
	default:
		return len(clusters) > 0 && slices.Equal(p.Cluster, clusters[0]) && deal(parts[1:], clusters[1:])
	}
}

// Promises 43.2 and 43.3: patterns and texts by chance.
func TestAny(t *testing.T) {
	x := ucd.Build(api.Rows())
	chance := rand.New(rand.NewSource(43))
	signs := []rune{'a', 'b', 'e', 0x301, 0xE9, '*', '*', '?', '\\'}
	for range 20000 {
		pattern, l := make([]rune, chance.Intn(7)), make([]rune, chance.Intn(8))
		for i := range pattern {
			pattern[i] = signs[chance.Intn(len(signs))]
		}
		for i := range l {
			l[i] = signs[chance.Intn(5)]
		}
		p, err := Parse(x, pattern)
		if err != api.OK {
			continue
		}
		want := deal(p.Parts(), seg.Clusters(x, compose.NFC(x, l)))
		if p.Fits(x, l) != want || p.Fits(x, decomp.NFD(x, l)) != want {
			t.Fatalf("%q, %q: %v", string(pattern), string(l), !want)
		}
		var itself []rune
		for _, r := range pattern {
			itself = append(itself, '\\', r)
		}
		if p, err = Parse(x, itself); err != api.OK || !p.Fits(x, pattern) {
			t.Fatalf("%q does not fit itself", string(pattern))
		}
	}
}

// Rule R1: a pattern that could be tried in very many ways.
func TestLong(t *testing.T) {
	x := ucd.Build(api.Rows())
	p, _ := Parse(x, []rune(strings.Repeat("*a", 100)+"b"))
	if p.Fits(x, slices.Repeat([]rune{'a'}, 50000)) {
		t.Error("it fits")
	}
}
