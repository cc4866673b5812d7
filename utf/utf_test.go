package utf

import (
	"math"
	"slices"
	"testing"
	"unicode/utf8"
)

// Promise 1.1.
func TestSizesAndBytes(t *testing.T) {
	for _, x := range []struct {
		r     rune
		valid bool
		s     string
	}{
		{0, true, "\x00"}, {0x7F, true, "\x7F"}, {0x80, true, "\xC2\x80"}, {0x7FF, true, "\xDF\xBF"}, {0x800, true, "\xE0\xA0\x80"},
		{0xD7FF, true, "\xED\x9F\xBF"}, {0xD800, false, "\xEF\xBF\xBD"}, {0xDFFF, false, "\xEF\xBF\xBD"}, {0xE000, true, "\xEE\x80\x80"}, {0xFFFD, true, "\xEF\xBF\xBD"},
		{0xFFFF, true, "\xEF\xBF\xBF"}, {0x10000, true, "\xF0\x90\x80\x80"}, {0x10FFFF, true, "\xF4\x8F\xBF\xBF"}, {0x110000, false, "\xEF\xBF\xBD"},
		{-1, false, "\xEF\xBF\xBD"}, {math.MinInt32, false, "\xEF\xBF\xBD"}, {math.MaxInt32, false, "\xEF\xBF\xBD"},
	} {
		if Valid(x.r) != x.valid || Put(x.r) != x.s || Size(x.r) != len(x.s) || Encode([]rune{x.r}) != x.s {
			t.Errorf("%x: %v %q %d %q", x.r, Valid(x.r), Put(x.r), Size(x.r), Encode([]rune{x.r}))
		}
	}
	if s := Encode([]rune{0x61, 0xD800, 0x20AC, 0x1F600}); s != "a\xEF\xBF\xBD\xE2\x82\xAC\xF0\x9F\x98\x80" {
		t.Errorf("%q", s)
	}
	if Encode(nil) != "" {
		t.Error("no scalars have bytes")
	}
}

// Promise 1.1 and 1.4: all scalars, against the library.
func TestAllScalars(t *testing.T) {
	for r := rune(-5); r < 0x110005; r++ {
		if Valid(r) != utf8.ValidRune(r) || Put(r) != string(utf8.AppendRune(nil, r)) {
			t.Fatalf("%x", r)
		}
		if Valid(r) && !slices.Equal(Decode(Put(r)), []rune{r}) {
			t.Fatalf("%x is decoded as %x", r, Decode(Put(r)))
		}
	}
}

// Promise 1.2.
func TestDecode(t *testing.T) {
	for _, x := range []struct {
		s string
		l []rune
	}{
		{"", nil}, {"\xE2\x82\xAC", []rune{0x20AC}}, {"\xE2\x82A", []rune{0xFFFD, 0x41}}, {"\xC0\x80", []rune{0xFFFD, 0xFFFD}}, {"\xF0\x80", []rune{0xFFFD, 0xFFFD}},
		{"\xED\xA0", []rune{0xFFFD, 0xFFFD}}, {"\xF4\x8F\xBF\xBF", []rune{0x10FFFF}}, {"\xF4\x90", []rune{0xFFFD, 0xFFFD}}, {"\xE0\x9F\x80", []rune{0xFFFD, 0xFFFD, 0xFFFD}},
		{"\xF5\x80", []rune{0xFFFD, 0xFFFD}}, {"\x80", []rune{0xFFFD}}, {"\xF0\x9F\x98", []rune{0xFFFD}}, {"\xC1\xBF", []rune{0xFFFD, 0xFFFD}},
	} {
		if l := Decode(x.s); !slices.Equal(l, x.l) {
			t.Errorf("%x: %x", x.s, l)
		}
	}
}

// rows are all bytes that matter: the ends of the bands of table 3-7, and what lies beside them.
var rows = []byte{0, 0x41, 0x7F, 0x80, 0x8F, 0x90, 0x9F, 0xA0, 0xBF, 0xC0, 0xC1, 0xC2, 0xDF, 0xE0, 0xE1, 0xEC, 0xED, 0xEE, 0xEF, 0xF0, 0xF1, 0xF3, 0xF4, 0xF5, 0xFF}

// longest tells how many bytes are the longest beginning of a row that may be, and whether it is whole.
func longest(s string) (int, bool) {
	for n := min(len(s), 4); n > 0; n-- {
		if utf8.ValidString(s[:n]) && utf8.RuneCountInString(s[:n]) == 1 {
			return n, true
		}
		if tails := []string{"\x80", "\xBF", "\x90", "\x80\x80", "\xA0\x80", "\xBF\xBF", "\x80\x80\x80", "\x90\x80\x80", "\x9F\x80"}; n < 4 {
			for _, tail := range tails {
				if whole := s[:n] + tail; utf8.ValidString(whole) && utf8.RuneCountInString(whole) == 1 {
					return n, false
				}
			}
		}
	}
	return 1, false
}

// Promises 1.2 to 1.4: all rows of up to four such bytes, at once and byte by byte, against a plain search for the longest beginnings.
func TestAllRows(t *testing.T) {
	var go4 func(s string)
	go4 = func(s string) {
		check(t, s)
		if len(s) < 4 {
			for _, b := range rows {
				go4(s + string([]byte{b}))
			}
		}
	}
	go4("")
}

func check(t *testing.T, s string) {
	var want []rune
	bad := false
	for i := 0; i < len(s); {
		n, whole := longest(s[i:])
		r := rune(0xFFFD)
		if whole {
			r, _ = utf8.DecodeRuneInString(s[i:])
		} else {
			bad = true
		}
		want = append(want, r)
		i += n
	}
	if l := Decode(s); !slices.Equal(l, want) {
		t.Fatalf("%x: %x, not %x", s, l, want)
	}
	if !bad && Encode(Decode(s)) != s {
		t.Fatalf("%x is not encoded as it was", s)
	}
	var d, e Decoder
	var told []rune
	for i := range len(s) {
		var l, m []rune
		d, l = d.Feed(s[i])
		e, m = e.Feed(s[i])
		told = append(told, l...)
		if d != e || !slices.Equal(l, m) || len(d.End()) != min(d.Pending(), 1) {
			t.Fatalf("%x: decoders of the same bytes differ", s)
		}
	}
	if !slices.Equal(append(told, d.End()...), want) {
		t.Fatalf("%x, byte by byte: %x", s, told)
	}
}

// Promise 1.3: what waits, and what is told of it.
func TestFeed(t *testing.T) {
	var d Decoder
	if d.Pending() != 0 || len(d.End()) != 0 {
		t.Error("the zero one has bytes")
	}
	for i, b := range []byte{0xF0, 0x9F, 0x98} {
		var l []rune
		d, l = d.Feed(b)
		if len(l) != 0 || d.Pending() != i+1 || !slices.Equal(d.End(), []rune{0xFFFD}) {
			t.Errorf("behind %x: %x, %d wait", b, l, d.Pending())
		}
	}
	kept := d
	d, l := d.Feed(0x80)
	if !slices.Equal(l, []rune{0x1F600}) || d != (Decoder{}) {
		t.Errorf("%x, %v", l, d)
	}
	if d, l = kept.Feed(0xC3); !slices.Equal(l, []rune{0xFFFD}) || d.Pending() != 1 {
		t.Errorf("%x, %d wait", l, d.Pending())
	}
	if d, l = kept.Feed(0x41); !slices.Equal(l, []rune{0xFFFD, 0x41}) || d != (Decoder{}) {
		t.Errorf("%x, %v", l, d)
	}
}
