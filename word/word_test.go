package word

import (
	"math"
	"math/rand"
	"slices"
	"testing"

	"typebar/api"
	"typebar/seg"
	"typebar/ucd"
)

var some = []rune{'a', 'b', 'c', 0xE9, 0x301, ' ', ',', '-', 0x600, 0x915, 0x94D, 0x4E00, 0x1F1E6, 0x1F468, 0x200D, '\n', -1}

// plain tells the words, cluster by cluster.
func plainWords(x *ucd.Tables, l []rune) [][2]int {
	var out [][2]int
	at := 0
	in := false
	for _, c := range seg.Clusters(x, l) {
		if x.Letter(c[0]) {
			if !in {
				out = append(out, [2]int{at, at})
			}
			out[len(out)-1][1] = at + len(c)
		}
		in = x.Letter(c[0])
		at += len(c)
	}
	return out
}

// Promises 12.1, 12.2 and 12.4: texts by chance.
func TestAny(t *testing.T) {
	x := ucd.Build(api.Rows())
	chance := rand.New(rand.NewSource(12))
	for range 20000 {
		l := make([]rune, chance.Intn(12))
		for i := range l {
			l[i] = some[chance.Intn(len(some))]
		}
		words := plainWords(x, l)
		if w := Words(x, l); !slices.Equal(w, words) {
			t.Fatalf("%x: %v, not %v", l, w, words)
		}
		bounds := append(seg.Starts(x, l), len(l))
		for at := -2; at < len(l)+3; at++ {
			ceil, floor := len(l), 0
			for _, b := range slices.Backward(bounds) {
				if b >= at {
					ceil = b
				}
			}
			for _, b := range bounds {
				if b <= at {
					floor = b
				}
			}
			forward, back := len(l), 0
			for _, w := range slices.Backward(words) {
				if w[1] > ceil {
					forward = w[1]
				}
			}
			for _, w := range words {
				if w[0] < floor {
					back = w[0]
				}
			}
			if Forward(x, l, at) != forward || Back(x, l, at) != back {
				t.Fatalf("%x at %d: %d %d, not %d %d", l, at, Forward(x, l, at), Back(x, l, at), forward, back)
			}
		}
		at := 0
		for _, w := range words {
			if at = Forward(x, l, at); at != w[1] {
				t.Fatalf("%x: the end %d", l, at)
			}
		}
		at = len(l)
		for _, w := range slices.Backward(words) {
			if at = Back(x, l, at); at != w[0] {
				t.Fatalf("%x: the beginning %d", l, at)
			}
		}
	}
}

// Promise 12.2: the example, and far places.
func TestExamples(t *testing.T) {
	x := ucd.Build(api.Rows())
	l := []rune("ab, cd")
	if Forward(x, l, 0) != 2 || Forward(x, l, 2) != 6 || Back(x, l, 6) != 4 || Back(x, l, 4) != 0 || Back(x, l, 3) != 0 || Forward(x, l, 1) != 2 || Back(x, l, 5) != 4 {
		t.Error("the example")
	}
	if Forward(x, l, math.MinInt) != 2 || Forward(x, l, math.MaxInt) != 6 || Back(x, l, math.MinInt) != 0 || Back(x, l, math.MaxInt) != 4 || Forward(x, nil, 0) != 0 || Back(x, nil, 0) != 0 || len(Words(x, nil)) != 0 {
		t.Error("far places")
	}
	if Forward(nil, l, 0) != 6 || Back(nil, l, 6) != 0 {
		t.Error("no tables know letters")
	}
}

// Promise 12.3.
func TestSplit(t *testing.T) {
	token := func(from, to int, s string) Token { return Token{from, to, []rune(s)} }
	for _, x := range []struct {
		s  string
		l  []Token
		at int
		ok bool
	}{
		{"", nil, 0, true}, {" \t ", nil, 0, true}, {"ab c", []Token{token(0, 2, "ab"), token(3, 4, "c")}, 0, true}, {"\ta\tb ", []Token{token(1, 2, "a"), token(3, 4, "b")}, 0, true},
		{`a\ b`, []Token{token(0, 4, "a b")}, 0, true}, {`\\ \'`, []Token{token(0, 2, `\`), token(3, 5, "'")}, 0, true}, {`'a b'c "d e"`, []Token{token(0, 6, "a bc"), token(7, 12, "d e")}, 0, true},
		{`'a\'`, []Token{token(0, 4, `a\`)}, 0, true}, {`"a\"b\\c\d'"`, []Token{token(0, 12, `a"b\c\d'`)}, 0, true}, {`''`, []Token{token(0, 2, "")}, 0, true}, {`""''`, []Token{token(0, 4, "")}, 0, true},
		{`a b'c`, nil, 2, false}, {`a "b\"`, nil, 2, false}, {`a b\`, nil, 2, false}, {`'`, nil, 0, false}, {`x"\`, nil, 0, false}, {`"\\"`, []Token{token(0, 4, `\`)}, 0, true}, {"a\nb", []Token{token(0, 3, "a\nb")}, 0, true}, {`'a' 'b`, nil, 4, false}, {`"a\`, nil, 0, false},
	} {
		l, at, ok := Split([]rune(x.s))
		same := slices.EqualFunc(l, x.l, func(a, b Token) bool { return a.From == b.From && a.To == b.To && slices.Equal(a.Text, b.Text) })
		if !same || at != x.at || ok != x.ok {
			t.Errorf("%q: %v %d %v", x.s, l, at, ok)
		}
	}
}

// Promises 12.3 and 12.4.
func TestQuote(t *testing.T) {
	for _, x := range []struct{ s, q string }{{"", "''"}, {"azAZ09-_./", "azAZ09-_./"}, {"a`", "'a`'"}, {"a{", "'a{'"}, {"a[", "'a['"}, {"a:", "'a:'"}, {"a b", "'a b'"}, {"it's", `'it'\''s'`}, {"é", "'é'"}, {`\`, `'\'`}, {"'", `''\'''`}, {"a@b", "'a@b'"}} {
		if q := string(Quote([]rune(x.s))); q != x.q {
			t.Errorf("%q: %q", x.s, q)
		}
	}
	chance := rand.New(rand.NewSource(13))
	signs := []rune{'a', ' ', '\t', '\'', '"', '\\', '/', '\n', 0x301, -1}
	for range 20000 {
		var all []rune
		var texts [][]rune
		for range 1 + chance.Intn(3) {
			l := make([]rune, chance.Intn(6))
			for i := range l {
				l[i] = signs[chance.Intn(len(signs))]
			}
			texts = append(texts, l)
			all = append(append(all, Quote(l)...), ' ')
		}
		tokens, _, ok := Split(all)
		if !ok || len(tokens) != len(texts) {
			t.Fatalf("%q: %v", string(all), tokens)
		}
		for i, x := range tokens {
			if !slices.Equal(x.Text, texts[i]) || !slices.Equal(all[x.From:x.To], Quote(texts[i])) {
				t.Fatalf("%q: %v", string(all), tokens)
			}
		}
	}
	l := []rune("ab")
	if Quote(l)[0] = 'x'; l[0] != 'a' {
		t.Error("a quote shares memory with the text")
	}
}
