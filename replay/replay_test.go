package replay

import (
	"math/rand"
	"slices"
	"testing"

	"typebar/api"
	"typebar/bind"
	"typebar/screen"
	"typebar/session"
	"typebar/ucd"
)

// events tells bytes as events.
func events(s string) []api.Event {
	var out []api.Event
	for i := range len(s) {
		out = append(out, api.Event{Kind: api.Byte, Byte: s[i]})
	}
	return out
}

// Promise 39.1: the example, and what stands in frames.
func TestOf(t *testing.T) {
	tables := ucd.Build(api.Rows())
	p, ok := Of(tables, bind.Map{}, 1, 5, nil)
	if !ok || len(p.Frames) != 1 || p.Frames[0].Sent != ">\x1b[C" || !p.Frames[0].Right || p.Frames[0].Bell || p.Frames[0].Most != 32+16+4*5 || !p.Right() || p.State.Mark != -1 {
		t.Error(p, ok)
	}
	l := slices.Concat(events("ab\a\x0c\r"), []api.Event{{Kind: api.Tick}, {Kind: api.Size, Rows: 2, Cols: 7}, {Kind: api.Size, Rows: 0, Cols: 7}, {Kind: 9}}, events("c\x02"))
	p, ok = Of(tables, bind.Map{}, 1, 5, l)
	want := []Frame{{">\x1b[C", 68, true, false}, {"a", 60, true, false}, {"b", 56, true, false}, {"\a", 32, true, true}, {"\x1b[1;1H\x1b[2J> ab", 68, true, false}, {"\x1b[2D\x1b[K", 60, true, false}, {"", 32, true, false}, {">\x1b[C", 76, true, false}, {"", 32, true, false}, {"", 32, true, false}, {"c", 68, true, false}, {"\x1b[D", 32, true, false}}
	if !ok || !slices.Equal(p.Frames, want) {
		t.Error(p.Frames)
	}
	s, _ := session.New(tables, bind.Map{}, 1, 5)
	for _, x := range l {
		s.Feed(x)
	}
	if !screen.Same(p.Screen, s.Screen()) || string(p.Line) != "c" || len(p.Lines) != 1 || string(p.Lines[0]) != "ab" || p.State.Cursor != 0 || p.State.Past.Len() != 1 {
		t.Error(p)
	}
	for _, size := range [][2]int{{0, 5}, {1, 1}, {501, 5}, {1, 1001}, {-1, -1}} {
		if p, ok := Of(tables, bind.Map{}, size[0], size[1], l); ok || p.Frames != nil || p.State.Mark != 0 || p.Screen.Grid != nil {
			t.Error(size)
		}
	}
}

// Promise 39.2.
func TestPlay(t *testing.T) {
	for _, x := range []struct {
		p     Play
		right bool
		sent  int
		bells int
	}{
		{Play{}, true, 0, 0}, {Play{Frames: []Frame{{"ab", 2, true, true}, {"c", 5, true, true}, {"", 0, true, false}}}, true, 3, 2}, {Play{Frames: []Frame{{"ab", 2, true, false}, {"c", 5, false, false}}}, false, 3, 0}, {Play{Frames: []Frame{{"ab", 1, true, false}, {"c", 5, true, false}}}, false, 3, 0},
	} {
		if x.p.Right() != x.right || x.p.Sent() != x.sent || x.p.Bells() != x.bells {
			t.Error(x.p, x.p.Right(), x.p.Sent(), x.p.Bells())
		}
	}
}

var pieces = []string{"a", "b", "e", " ", ",", "\u00E9", "\u0301", "\u0301", "\u0323", "\u0915", "\u094D", "\U0001F1E6", "\u4E00", "\u4E01", "\u0600", "\u1100", "\u1161", "\U0001F468", "\u200D", "\u2764\uFE0F", "\x00", "\x01", "\x02", "\x02", "\x04", "\x05", "\x06", "\a", "\b", "\r", "\v", "\x0c", "\x0e", "\x10", "\x11\x01", "\x12", "\x13", "\x14", "\x15", "\x17", "\x19", "\x1f", "\x7f", "\x1b\x7f", "\x1b9", "\x1b2", "\x1b-", "\x1bb", "\x1bf", "\x1bd", "\x1bw", "\x1by", "\x1b[A", "\x1b[B", "\x1b[3~", "\x1b[9~", "\x1bO", "\xff", "\xc3", "\x1b", "\x1b[200~e\u0301x\n\x1b[201~", "\x1b[200~\r\n\u4E00\x1b[201~", "\x18\x18"}

// Promises 39.3, T6 and T7: each play is right.
func TestAny(t *testing.T) {
	tables := ucd.Build(api.Rows())
	chance := rand.New(rand.NewSource(39))
	for range 150 {
		var l []api.Event
		for range 150 {
			switch chance.Intn(30) {
			case 0:
				l = append(l, api.Event{Kind: api.Tick})
			case 1:
				l = append(l, api.Event{Kind: api.Size, Rows: chance.Intn(5), Cols: 1 + chance.Intn(12)})
			default:
				l = append(l, events(pieces[chance.Intn(len(pieces))])...)
			}
		}
		kept := slices.Clone(l)
		p, ok := Of(tables, bind.Map{}, 1+chance.Intn(4), 2+chance.Intn(12), l)
		if !ok || !p.Right() || len(p.Frames) != len(l)+1 || !slices.Equal(l, kept) {
			for i, f := range p.Frames {
				if !f.Right || len(f.Sent) > f.Most {
					t.Fatalf("the frame %d: %q, at most %d", i, f.Sent, f.Most)
				}
			}
			t.Fatal(len(p.Frames), ok)
		}
	}
}
