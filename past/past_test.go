package past

import (
	"math"
	"math/rand"
	"strings"
	"testing"

	"typebar/api"
)

func of(lines ...string) Past {
	var p Past
	for _, l := range lines {
		p = p.Add([]rune(l))
	}
	return p
}

// all tells the lines, the newest one first, with a bar between them.
func all(p Past) string {
	var l []string
	for _, x := range p.All() {
		l = append(l, string(x))
	}
	return strings.Join(l, "|")
}

// Promise 20.1.
func TestAdd(t *testing.T) {
	for _, x := range []struct {
		lines []string
		all   string
	}{{nil, ""}, {[]string{"a", "b"}, "b|a"}, {[]string{"a", "a", "", "b", "a"}, "a|b|a"}} {
		if p := of(x.lines...); all(p) != x.all || p.At() != 0 {
			t.Errorf("%v: %s", x.lines, all(p))
		}
	}
	p := of("a", "b")
	q, _, _ := p.Go(2, []rune("x"))
	for _, s := range []string{"", "b", "c"} {
		if r := q.Add([]rune(s)); r.At() != 0 || q.At() != 2 {
			t.Error(s, r.At())
		} else if l, _ := r.Line(0, []rune("now")); string(l) != "now" {
			t.Error(s, string(l))
		}
	}
	var many Past
	for i := range api.MaxPast + 5 {
		many = many.Add([]rune{rune(i)})
	}
	if l := many.All(); many.Len() != api.MaxPast || l[0][0] != api.MaxPast+4 || l[api.MaxPast-1][0] != 5 {
		t.Error(many.Len())
	}
	s := []rune("ab")
	p = of().Add(s)
	s[0] = 'x'
	p.All()[0][1] = 'x'
	if l, _ := p.Line(1, nil); string(l) != "ab" {
		t.Error("a past shares memory")
	}
}

// Promises 20.2 and 20.4: the example, going anywhere, and what is refused.
func TestGo(t *testing.T) {
	p := of("a", "b")
	q, l, ok := p.Go(2, []rune("x"))
	if string(l) != "a" || !ok || q.At() != 2 || p.At() != 0 {
		t.Error(string(l), ok)
	}
	r, l, ok := q.Go(0, []rune("a"))
	if string(l) != "x" || !ok || r.At() != 0 {
		t.Error(string(l), ok)
	}
	if l, ok = r.Line(0, []rune("y")); string(l) != "y" || !ok {
		t.Error(string(l), ok)
	}
	for _, i := range []int{-1, 3, math.MinInt, math.MaxInt} {
		r, l, ok := q.Go(i, []rune("n"))
		if m, is := q.Line(i, []rune("n")); ok || l != nil || r.At() != 2 || is || m != nil {
			t.Error(i, string(l), ok)
		}
	}
	if l, ok = q.Line(0, []rune("y")); string(l) != "x" || !ok {
		t.Error(string(l), ok)
	}
	if _, l, ok = of().Go(0, []rune("y")); string(l) != "y" || !ok {
		t.Error(string(l), ok)
	}
	chance := rand.New(rand.NewSource(20))
	lines := []string{"", "b", "a"}
	for range 200 {
		q, now := p, "left"
		for range 10 {
			i := chance.Intn(3)
			was := q.At()
			r, l, ok := q.Go(i, []rune(now))
			want := lines[i]
			if i == 0 {
				want = "left"
			}
			if !ok || string(l) != want || r.At() != i {
				t.Fatal(was, i, string(l), ok)
			}
			q, now = r, string(l)
			if i > 0 {
				now += "changed"
			}
		}
	}
}

// Promise 20.3.
func TestExpand(t *testing.T) {
	p := of("a", "b")
	many := of("1", "2", "3", "4", "5", "6", "7", "8", "nine", "x12", "z", "twelve")
	q := of("make all", "git log", "make it", "-x", "go !", "12")
	for _, x := range []struct {
		p    Past
		s, e string
		err  api.Errno
	}{
		{p, "x !!", "x b", 0}, {p, `a\!`, "a!", 0}, {many, "!9", "nine", 0}, {many, "!12", "twelve", 0}, {many, "!x12", "x12", 0}, {many, "!-9x", "4x", 0}, {many, "!-10", "3", 0}, {p, "!1", "a", 0}, {p, "!-2", "a", 0}, {p, "", "", 0}, {p, "x", "x", 0}, {p, `\!!`, "!!", 0}, {p, `\!!x`, "", api.ErrNone}, {p, `\!\!a`, "!!a", 0}, {p, `\x\`, `\x\`, 0}, {p, "!", "!", 0}, {p, "! !\t", "! !\t", 0}, {p, "!!!", "b!", 0},
		{p, "!0", "", api.ErrNone}, {p, "!3", "", api.ErrNone}, {p, "!-0", "", api.ErrNone}, {p, "!-3", "", api.ErrNone}, {p, "!00012", "a2", 0}, {p, "!00011", "a1", 0}, {p, "!0001x", "ax", 0}, {p, "!00021", "b1", 0}, {p, "!-00021", "a1", 0}, {p, "!-00029", "a9", 0}, {p, "!00029", "b9", 0}, {p, "!0002!1", "ba", 0},
		{p, "!c", "", api.ErrNone}, {p, "!?c?", "", api.ErrNone}, {of(), "!!", "", api.ErrNone}, {of(), "!?", "", api.ErrNone}, {p, "!?", "b", 0}, {p, "!??", "b", 0}, {p, "!?a", "a", 0}, {p, "!?a?b", "ab", 0},
		{q, "!ma", "make it", 0}, {q, "!make all", "make it all", 0}, {q, "!git!!", "git log12", 0}, {q, "!?l", "git log", 0}, {q, "!?e a?", "make all", 0}, {q, "!-x", "-x", 0}, {q, "!-", "-x", 0}, {q, "!-6", "make all", 0}, {q, "!?o !?", "go !", 0}, {q, "!go\tx", "go !\tx", 0}, {q, "!12", "", api.ErrNone}, {q, "x!5y", "xgo !y", 0},
	} {
		if e, err := x.p.Expand([]rune(x.s)); string(e) != x.e || err != x.err || err != 0 && e != nil {
			t.Errorf("%q: %q %d", x.s, string(e), err)
		}
	}
}

// Promise 20.3: the limit, and which error is the first.
func TestExpandLimit(t *testing.T) {
	half := strings.Repeat("h", api.MaxText/2)
	p := of("a", half)
	for _, x := range []struct {
		s   string
		err api.Errno
	}{{"!!!!", api.OK}, {"!!!!x", api.ErrLimit}, {"!!!!!!", api.ErrLimit}, {"!!!!x!z", api.ErrLimit}, {"!z!!!!x", api.ErrNone}, {"!!!!!z", api.ErrNone}, {half + half, api.OK}, {half + half + "!1", api.ErrLimit}} {
		if e, err := p.Expand([]rune(x.s)); err != x.err || (e == nil) != (err != api.OK) {
			t.Errorf("%.20q: %d", x.s, err)
		}
	}
	s := []rune("abc")
	if e, _ := p.Expand(s); &e[0] == &s[0] {
		t.Error("an answer shares memory with the text")
	}
}
