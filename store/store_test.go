package store

import (
	"math"
	"math/rand"
	"slices"
	"strings"
	"testing"

	"typebar/api"
	"typebar/bind"
	"typebar/past"
	"typebar/session"
	"typebar/ucd"
	"typebar/utf"
)

// stored tells the store of texts.
func stored(l ...string) string {
	var s strings.Builder
	for _, x := range l {
		s.WriteString(Entry([]rune(x)))
	}
	return s.String()
}

func tell(l [][]rune) string {
	s := ""
	for _, x := range l {
		s += string(x) + "|"
	}
	return s
}

// Promise 47.1.
func TestEntry(t *testing.T) {
	for _, x := range []struct {
		l []rune
		s string
	}{
		{[]rune("a"), "3a a\n"}, {nil, "07 \n"}, {[]rune("\n"), "d9 \\n\n"}, {[]rune(`\`), "c7 \\\\\n"}, {[]rune(`\n`), "87 \\\\n\n"}, {[]rune{0xD800}, Entry([]rune{0xFFFD})},
	} {
		if s := Entry(x.l); s != x.s {
			t.Errorf("%x: %q", x.l, s)
		}
		sum := 7
		text := Entry(x.l)[3 : len(Entry(x.l))-1]
		for i := range len(text) {
			sum = (sum*31 + int(text[i])) % 256
		}
		if digits := "0123456789abcdef"; Entry(x.l)[:3] != string([]byte{digits[sum/16], digits[sum%16], ' '}) {
			t.Errorf("%x: the check is %d", x.l, sum)
		}
	}
	if MaxBytes != 1<<20 {
		t.Error("the limit")
	}
	if s, err := Append("x", []rune("a")); s != "x3a a\n" || err != api.OK {
		t.Error(s, err)
	}
	full := strings.Repeat("x", MaxBytes-5)
	if s, err := Append(full, []rune("a")); len(s) != MaxBytes || err != api.OK {
		t.Error(len(s), err)
	}
	if s, err := Append(full, []rune("ab")); s != full || err != api.ErrFull {
		t.Error(len(s), err)
	}
	if s, err := All([][]rune{[]rune("a"), nil, []rune("b\n")}); s != stored("a", "", "b\n") || err != api.OK {
		t.Errorf("%q %d", s, err)
	}
	many := slices.Repeat([][]rune{[]rune("abcdefghijkl")}, MaxBytes/16)
	if s, err := All(many); len(s) != MaxBytes || err != api.OK {
		t.Error(len(s), err)
	}
	if s, err := All(append(many, nil)); s != "" || err != api.ErrFull {
		t.Error(len(s), err)
	}
}

// Promise 47.2: what is read, and what is none.
func TestRead(t *testing.T) {
	for _, x := range []struct {
		s, lines string
		size     int
	}{
		{"", "", 0}, {"3a a\n", "a|", 5}, {"3a a\n3a a\nx", "a|a|", 10}, {"3a a", "", 0}, {"3b a\n3a a\n", "", 0}, {"3A a\n", "", 0}, {"3a  a\n", "", 0}, {"3aa\n", "", 0}, {"3a-a\n", "", 0}, {"\n", "", 0}, {"07\n", "", 0}, {"07 \n", "|", 4}, {"d9 \\n\n", "\n|", 6}, {"07 \n\n07 \n", "|", 4},
		{entry("\\x"), "", 0}, {entry("\\"), "", 0}, {entry("a\\\\\\"), "", 0}, {entry("\xff"), "", 0}, {entry("\xc3"), "", 0}, {entry("\xed\xa0\x80"), "", 0}, {entry("\uFFFD"), "\uFFFD|", 7}, {entry("a\\\\n\\n"), "a\\n\n|", 10}, {entry("\r\x00"), "\r\x00|", 6},
	} {
		if l, size := Read(x.s); tell(l) != x.lines || size != x.size {
			t.Errorf("%q: %q %d", x.s, tell(l), size)
		}
	}
}

// entry tells what would be the entry of a text as it is.
func entry(text string) string { return check(text) + " " + text + "\n" }

// Promises 47.3 and 47.4.
func TestPastTrimMerge(t *testing.T) {
	s := stored("a", "b", "b", "", "c") + "torn"
	if l := Past(s).All(); tell(l) != "c|b|a|" || Past(s).At() != 0 {
		t.Error(tell(l))
	}
	for n, want := range map[int]string{0: "", -1: "", math.MinInt: "", 1: stored("c"), 3: stored("b", "", "c"), 5: stored("a", "b", "b", "", "c"), 6: stored("a", "b", "b", "", "c"), math.MaxInt: stored("a", "b", "b", "", "c")} {
		if got := Trim(s, n); got != want {
			t.Errorf("%d: %q", n, got)
		}
	}
	if Trim("", 5) != "" || Trim("x", 5) != "" {
		t.Error("nothing")
	}
	for _, x := range []struct{ a, b, want string }{{stored("a", "b", "a", "c"), stored("b", "d") + "x", stored("a", "c", "b", "d")}, {"", "", ""}, {stored("a", "a"), "", stored("a")}, {"x", stored("a"), stored("a")}, {stored("\\n"), stored("\n"), stored("\\n", "\n")}} {
		if got, err := Merge(x.a, x.b); got != x.want || err != api.OK {
			t.Errorf("%q, %q: %q %d", x.a, x.b, got, err)
		}
	}
	var lines []string
	for i := range MaxBytes/16/2 + 1 {
		lines = append(lines, strings.Repeat("x", 8)+string(rune('a'+i%16))+string(rune('a'+i/16%16))+string(rune('a'+i/256%16))+string(rune('a'+i/4096)))
	}
	a, b := stored(lines...), stored(upper(lines)...)
	if got, err := Merge(a, b); got != "" || err != api.ErrFull {
		t.Error(len(got), err)
	}
	if got, err := Merge(a, a); got != a || err != api.OK {
		t.Error(len(got), err)
	}
}

func upper(l []string) []string {
	var out []string
	for _, s := range l {
		out = append(out, strings.ToUpper(s))
	}
	return out
}

// Promises 47.2 and 47.5: lines by chance, torn off anywhere.
func TestAny(t *testing.T) {
	chance := rand.New(rand.NewSource(47))
	signs := []rune{'a', 'n', '\\', '\n', ' ', 0xE9, 0x4E00, 0x1F600, 0, 0xD800, -1}
	for range 300 {
		lines := make([][]rune, chance.Intn(5))
		var read [][]rune // with Bad for what is no scalar
		var ends []int
		size := 0
		for i := range lines {
			for range chance.Intn(6) {
				lines[i] = append(lines[i], signs[chance.Intn(len(signs))])
			}
			read = append(read, utf.Decode(utf.Encode(lines[i])))
			size += len(Entry(lines[i]))
			ends = append(ends, size)
		}
		s, _ := All(lines)
		for end := range len(s) + 1 {
			n := 0
			for n < len(ends) && ends[n] <= end {
				n++
			}
			l, size := Read(s[:end])
			if !slices.EqualFunc(l, read[:n], slices.Equal) || n > 0 && size != ends[n-1] || n == 0 && size != 0 {
				t.Fatalf("%q up to %d: %q", s, end, tell(l))
			}
			if kept, _ := All(l); kept != s[:size] || Trim(s[:end], len(ends)) != s[:size] {
				t.Fatalf("%q up to %d: %q", s, end, kept)
			}
		}
	}
}

// Promise T9: lines that were accepted, laid into a store, are read, and make the same past.
func TestAccepted(t *testing.T) {
	tables := ucd.Build(api.Rows())
	chance := rand.New(rand.NewSource(48))
	for range 50 {
		s, _ := session.New(tables, bind.Map{}, 2, 9)
		for range 200 {
			b := "ab \\\xcc\x81\r\r\x11\n"[chance.Intn(10)]
			s.Feed(api.Event{Kind: api.Byte, Byte: b})
		}
		text, err := All(s.Lines())
		lines, size := Read(text)
		p := Past(text)
		if err != api.OK || size != len(text) || !slices.EqualFunc(lines, s.Lines(), slices.Equal) || !slices.EqualFunc(p.All(), s.Now().Past.All(), slices.Equal) {
			t.Fatalf("%q: %q", text, tell(lines))
		}
	}
	if p := Past(""); p.Len() != (past.Past{}).Len() {
		t.Error("the past of nothing")
	}
}
