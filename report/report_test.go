package report

import (
	"math"
	"math/rand"
	"strings"
	"testing"

	"typebar/api"
	"typebar/bind"
	"typebar/editor"
	"typebar/replay"
	"typebar/script"
	"typebar/ucd"
)

// Promise 40.1.
func TestQuote(t *testing.T) {
	for _, x := range []struct {
		l []rune
		s string
	}{
		{nil, ""}, {[]rune("a b\u00E9\U0001F600"), "a b\u00E9\U0001F600"}, {[]rune{0, 0xA, 0x1F, 0x20, 0x7E, 0x7F, 0x80, 0x9F, 0xA0}, "<0><a><1f> ~<7f><80><9f>\u00A0"}, {[]rune("<>"), "<3c><3e>"}, {[]rune{0xD800, -1, 0x110000, math.MinInt32, 0xFFFD}, "<d800><-1><110000><-80000000>\uFFFD"}, {[]rune{0x65, 0x301}, "e\u0301"},
	} {
		if s := Quote(x.l); s != x.s {
			t.Errorf("%x: %q", x.l, s)
		}
	}
}

// Promise 40.2: plays that are made up.
func TestOf(t *testing.T) {
	l := []api.Event{{Kind: api.Tick}, {Kind: api.Byte}, {Kind: api.Byte}, {Kind: 7}, {Kind: -1}, {}}
	p := replay.Play{Frames: []replay.Frame{{Sent: "a", Most: 5, Right: true, Bell: true}}, Lines: [][]rune{nil, []rune("x\n")}, Line: []rune("ab")}
	if s := Of(p, l); s != "in: 2 bytes, 1 tick, 0 sizes\nout: 1 byte, 1 bell\naccepted: \naccepted: x<a>\nline: |ab\n" {
		t.Errorf("%q", s)
	}
	p.Frames = append(p.Frames, replay.Frame{Sent: "abc", Most: 2, Right: true})
	for at, line := range map[int]string{-5: "|ab", 1: "a|b", 2: "ab|", 3: "ab|", math.MaxInt: "ab|", math.MinInt: "|ab"} {
		p.State = editor.State{Cursor: at}
		if s := Of(p, nil); !strings.HasSuffix(s, "line: "+line+"\nNOT RIGHT\n") || !strings.HasPrefix(s, "in: 0 bytes, 0 ticks, 0 sizes\nout: 4 bytes, 1 bell\n") {
			t.Errorf("%d: %q", at, s)
		}
	}
	if s := Of(replay.Play{}, nil); s != "in: 0 bytes, 0 ticks, 0 sizes\nout: 0 bytes, 0 bells\nline: |\n" {
		t.Errorf("%q", s)
	}
}

// Promise 40.3: the example, and errors.
func TestText(t *testing.T) {
	tables := ucd.Build(api.Rows())
	for _, x := range []struct {
		rows, cols int
		s, report  string
		line       int
		err        api.Errno
	}{
		{1, 5, "bytes 61", "in: 1 byte, 0 ticks, 0 sizes\nout: 5 bytes, 0 bells\nline: a|\n[> a]\n", 0, 0}, {1, 5, "", "in: 0 bytes, 0 ticks, 0 sizes\nout: 4 bytes, 0 bells\nline: |\n[>]\n", 0, 0},
		{2, 9, "bytes 6162020d\nsize 1 4\ntick\nbytes 3c1b\ntick\n", "in: 6 bytes, 2 ticks, 1 size\nout: 21 bytes, 1 bell\naccepted: ab\nline: <3c>|\n[> <]\n", 0, 0},
		{1, 5, "tick\nx", "", 2, api.ErrForm}, {0, 5, "tick", "", 0, api.ErrArg}, {0, 5, "tick\nx", "", 2, api.ErrForm}, {1, 5, strings.Repeat("\n", script.MaxText+1), "", 0, api.ErrFull},
	} {
		report, line, err := Text(tables, bind.Map{}, x.rows, x.cols, x.s)
		if report != x.report || line != x.line || err != x.err {
			t.Errorf("%.50q: %q %d %d", x.s, report, line, err)
		}
	}
}

// Promise 40.4: no report of a script says NOT RIGHT.
func TestAny(t *testing.T) {
	tables := ucd.Build(api.Rows())
	chance := rand.New(rand.NewSource(40))
	for range 100 {
		var l []api.Event
		for range 100 {
			b := byte(chance.Intn(128))
			if chance.Intn(3) == 0 {
				b = "ab\xcc\x81 \x1b["[chance.Intn(7)]
			}
			l = append(l, api.Event{Kind: api.Byte, Byte: b})
		}
		s, _ := script.Print(l)
		report, _, err := Text(tables, bind.Map{}, 1+chance.Intn(3), 2+chance.Intn(20), s)
		if err != api.OK || strings.Contains(report, "NOT RIGHT") {
			t.Fatalf("%q: %q", s, report)
		}
	}
}
