package keys

import (
	"math/rand"
	"slices"
	"strconv"
	"strings"
	"testing"

	"typebar/api"
	"typebar/utf"
)

// tell tells keys as text.
func tell(l []api.Key) string {
	var out []string
	for _, k := range l {
		s := strconv.FormatInt(int64(k.Rune), 16)
		switch k.Kind {
		case api.KeyCtrl:
			s = "^" + s
		case api.KeyNamed:
			s = "name" + s
		case api.KeyOdd:
			s = "odd" + strings.TrimLeft(s, "0")
		case api.KeyPaste:
			s = "paste" + strconv.Quote(string(k.Text)) + strings.TrimLeft(s, "0")
		}
		if k.Meta {
			s = "m-" + s
		}
		out = append(out, s)
	}
	return strings.Join(out, " ")
}

// feed feeds bytes; T stands for nothing but itself: ticks are fed apart.
func feed(p Parser, s string) (Parser, []api.Key) {
	var out []api.Key
	for i := range len(s) {
		q, l := p.Feed(s[i])
		again, m := p.Feed(s[i])
		if tell(l) != tell(m) || q.Waits() != again.Waits() {
			panic("a parser was changed")
		}
		p = q
		out = append(out, l...)
	}
	return p, out
}

// Promises 22.1 and 22.2: bytes, the keys that they tell, and those that a tick tells then.
func TestKeys(t *testing.T) {
	sixteen := strings.Repeat("1", api.MaxPending)
	for _, x := range []struct{ s, keys, tick string }{
		{"", "", ""}, {"ab", "61 62", ""}, {"\x1b[A", "name1", ""}, {"\x1ba", "m-61", ""}, {"\x1b", "", "^1b"}, {"\xc3\xa9", "e9", ""}, {"\xc3\x01", "fffd ^1", ""}, {"\x1b[3~", "name8", ""}, {"\x00\x7f\x1f", "^0 ^7f ^1f", ""},
		{"\xc3", "", "fffd"}, {"\xc3\x1b", "fffd", "^1b"}, {"\xc3\x1b[A", "fffd name1", ""}, {"\xe2\x82A", "fffd 41", ""}, {"\xff", "fffd", ""}, {"\xc2\x85", "85", ""},
		{"\x1b\x1b", "^1b", "^1b"}, {"\x1b\x1b[A", "^1b name1", ""}, {"\x1b\x01", "m-^1", ""}, {"\x1b\x7f", "m-^7f", ""}, {"\x1b\xc3\xa9a", "m-e9 61", ""}, {"\x1b\xc3", "", "m-fffd"}, {"\x1b\xc3A", "m-fffd 41", ""}, {"\x1b\xc3\x01", "m-fffd ^1", ""}, {"\x1b\xc3\x1b", "m-fffd", "^1b"}, {"\x1b\xff\xff", "m-fffd fffd", ""}, {"\x1b\xc3\xc3\xa9", "m-fffd e9", ""},
		{"\x1b[", "", "odd"}, {"\x1b[1", "", "odd"}, {"\x1b[B\x1b[C\x1b[D\x1b[H\x1b[F", "name2 name3 name4 name5 name6", ""}, {"\x1b[E", "odd", ""}, {"\x1b[1~\x1b[7~\x1b[4~\x1b[8~\x1b[2~\x1b[5~\x1b[6~", "name5 name5 name6 name6 name7 name9 namea", ""}, {"\x1b[9~\x1b[~\x1b[03~\x1b[3;5~\x1b[201~", "odd odd odd odd odd", ""},
		{"\x1b[1A", "odd", ""}, {"\x1b[ A", "odd", ""}, {"\x1b[\x01", "odd ^1", ""}, {"\x1b[1\x1b[A", "odd name1", ""}, {"\x1b[1\xc3\xa9", "odd e9", ""}, {"\x1b[\x7f", "odd ^7f", ""}, {"\x1b[\x80", "odd fffd", ""}, {"\x1bO\x80", "odd fffd", ""}, {"\x1b[200A", "odd", ""}, {"\x1b[200\x1b", "odd", "^1b"}, {"\x1bO\x7f", "odd ^7f", ""}, {"\x1b[@", "odd", ""}, {"\x1b[?", "", "odd"},
		{"\x1b[" + sixteen, "", "odd"}, {"\x1b[" + sixteen + "~a", "odd 61", ""}, {"\x1b[" + sixteen + "1a", "odd 61", ""},
		{"\x1bO", "", "odd"}, {"\x1bOA\x1bOB\x1bOC\x1bOD\x1bOH\x1bOF", "name1 name2 name3 name4 name5 name6", ""}, {"\x1bOa\x1bO1", "odd odd", ""}, {"\x1bO\x01", "odd ^1", ""}, {"\x1bO\x1ba", "odd m-61", ""}, {"\x1bO\xc3\xa9", "odd e9", ""},
		{"\x1b[200~\x1b[201~", `paste""`, ""}, {"\x1b[200~a\nb\x1b[201~c", `paste"a\nb" 63`, ""}, {"\x1b[200~\x1b[20\x1b[201~", "paste\"\\x1b[20\"", ""}, {"\x1b[200~\x1b\x1b[201~", "paste\"\\x1b\"", ""}, {"\x1b[200~\xc3\x1b[201~", "paste\"\uFFFD\"", ""}, {"\x1b[200~a", "", ""}, {"\x1b[200~\x1b[200~\x1b[201~", "paste\"\\x1b[200~\"", ""},
	} {
		p, l := feed(Parser{}, x.s)
		if tell(l) != x.keys {
			t.Errorf("%q: %s", x.s, tell(l))
		}
		q, l := p.Tick()
		if tell(l) != x.tick {
			t.Errorf("%q, and a tick: %s", x.s, tell(l))
		}
		if p.Waits() != (x.tick != "" || x.s == "\x1b[200~a") || q.Waits() != (x.s == "\x1b[200~a") {
			t.Errorf("%q: it waits: %v, %v", x.s, p.Waits(), q.Waits())
		}
	}
}

// Promise 22.2: nothing happens to a paste by a tick.
func TestTickInPaste(t *testing.T) {
	p, _ := feed(Parser{}, "\x1b[200~a\x1b[20")
	p, l := p.Tick()
	if len(l) != 0 || !p.Waits() {
		t.Error(tell(l))
	}
	if _, l = feed(p, "1~"); tell(l) != `paste"a"` {
		t.Error(tell(l))
	}
}

// A parser is a value: what is fed to one parser of two of the same bytes is not told by the other.
func TestValues(t *testing.T) {
	p, _ := feed(Parser{}, "\x1b[200~ab")
	q, _ := feed(p, "x")
	r, _ := feed(p, "y")
	_, l := feed(q, pasteEnd)
	_, m := feed(r, pasteEnd)
	_, n := feed(p, pasteEnd)
	if tell(l) != `paste"abx"` || tell(m) != `paste"aby"` || tell(n) != `paste"ab"` {
		t.Error(tell(l), tell(m), tell(n))
	}
}

// Promise 22.3: what is pasted, and what is typed, by chance; and any bytes at all come to an end.
func TestAny(t *testing.T) {
	chance := rand.New(rand.NewSource(22))
	for range 5000 {
		b := make([]byte, chance.Intn(20))
		for i := range b {
			b[i] = "\x1b[]~012OA\xc3\xa9a\xff\x7f"[chance.Intn(14)]
		}
		s := string(b)
		feed(Parser{}, s)
		if !strings.Contains(s+pasteEnd[:5], pasteEnd) {
			p, l := feed(Parser{}, "\x1b[200~"+s+pasteEnd)
			if len(l) != 1 || l[0].Kind != api.KeyPaste || !slices.Equal(l[0].Text, utf.Decode(s)) || p.Waits() {
				t.Fatalf("%q: %s", s, tell(l))
			}
		}
		var typed []rune
		for range chance.Intn(9) {
			typed = append(typed, []rune{0x61, 0x7E, 0x80, 0xE9, 0x20AC, 0x1F600, 0x10FFFF, 0x5B}[chance.Intn(8)])
		}
		_, l := feed(Parser{}, utf.Encode(typed))
		if len(l) != len(typed) {
			t.Fatalf("%x: %s", typed, tell(l))
		}
		for i, k := range l {
			if k.Kind != api.KeyChar || k.Rune != typed[i] || k.Meta || k.Text != nil {
				t.Fatalf("%x: %s", typed, tell(l))
			}
		}
	}
}
