package script

import (
	"math"
	"math/rand"
	"slices"
	"strings"
	"testing"

	"typebar/api"
)

func byteOf(b byte) api.Event         { return api.Event{Kind: api.Byte, Byte: b} }
func sizeOf(rows, cols int) api.Event { return api.Event{Kind: api.Size, Rows: rows, Cols: cols} }

// Promise 37.1.
func TestParse(t *testing.T) {
	tick := api.Event{Kind: api.Tick}
	for _, x := range []struct {
		s    string
		l    []api.Event
		line int
		err  api.Errno
	}{
		{"", nil, 0, 0}, {"bytes 61\ntick\nsize 3 80\n", []api.Event{byteOf('a'), tick, sizeOf(3, 80)}, 0, 0}, {"tick", []api.Event{tick}, 0, 0}, {"\n\n# x\n#\ntick\n", []api.Event{tick}, 0, 0}, {"bytes 00ff1b", []api.Event{byteOf(0), byteOf(255), byteOf(27)}, 0, 0}, {"size 0 9999", []api.Event{sizeOf(0, 9999)}, 0, 0},
		{"tick\r\n", nil, 1, api.ErrForm}, {"tick\n tick\n", nil, 2, api.ErrForm}, {"tick ", nil, 1, api.ErrForm}, {"\nbytes \n", nil, 2, api.ErrForm}, {"bytes", nil, 1, api.ErrForm}, {"bytes 6", nil, 1, api.ErrForm}, {"bytes 616", nil, 1, api.ErrForm}, {"bytes 6A", nil, 1, api.ErrForm}, {"bytes 61 62", nil, 1, api.ErrForm}, {"bytes 6g", nil, 1, api.ErrForm}, {"bytes g6", nil, 1, api.ErrForm}, {"bytes :0", nil, 1, api.ErrForm}, {"bytes  61", nil, 1, api.ErrForm},
		{"size", nil, 1, api.ErrForm}, {"size ", nil, 1, api.ErrForm}, {"size 3", nil, 1, api.ErrForm}, {"size 3 ", nil, 1, api.ErrForm}, {"size  3 4", nil, 1, api.ErrForm}, {"size 3  4", nil, 1, api.ErrForm}, {"size 03 4", nil, 1, api.ErrForm}, {"size 3 04", nil, 1, api.ErrForm}, {"size 00 4", nil, 1, api.ErrForm}, {"size 10000 4", nil, 1, api.ErrForm}, {"size 3 4 5", nil, 1, api.ErrForm}, {"size -1 4", nil, 1, api.ErrForm}, {"size +1 4", nil, 1, api.ErrForm}, {"size a 4", nil, 1, api.ErrForm},
		{"Tick", nil, 1, api.ErrForm}, {"x", nil, 1, api.ErrForm}, {"tick\ntick\ntickx\nx", nil, 3, api.ErrForm}, {" #", nil, 1, api.ErrForm}, {"bytes " + strings.Repeat("61", PerLine+1), nil, 1, api.ErrForm}, {"bytes " + strings.Repeat("61", PerLine), slices.Repeat([]api.Event{byteOf('a')}, PerLine), 0, 0},
	} {
		l, line, err := Parse(x.s)
		if !slices.Equal(l, x.l) || line != x.line || err != x.err || err != 0 && l != nil {
			t.Errorf("%q: %v %d %d", x.s, l, line, err)
		}
	}
}

// Promises 37.1 and 37.2: the limits.
func TestLimits(t *testing.T) {
	if MaxText != 1<<18 || MaxEvents != 65536 || PerLine != 32 || MostSize != 9999 {
		t.Error("the limits")
	}
	if l, line, err := Parse("#" + strings.Repeat("x", MaxText)); l != nil || line != 0 || err != api.ErrFull {
		t.Error(line, err)
	}
	if _, line, err := Parse("#" + strings.Repeat("x", MaxText-1)); line != 0 || err != api.OK {
		t.Error(line, err)
	}
	full := strings.Repeat("bytes "+strings.Repeat("61", PerLine)+"\n", MaxEvents/PerLine)
	if l, line, err := Parse(full); len(l) != MaxEvents || line != 0 || err != api.OK {
		t.Error(len(l), line, err)
	}
	if l, line, err := Parse(full + "#\ntick\nx\n"); l != nil || line != MaxEvents/PerLine+2 || err != api.ErrLimit {
		t.Error(len(l), line, err)
	}
	if l, line, err := Parse(full + "x\ntick\n"); l != nil || line != MaxEvents/PerLine+1 || err != api.ErrForm {
		t.Error(len(l), line, err)
	}
	l := slices.Repeat([]api.Event{byteOf('a')}, MaxEvents)
	if s, err := Print(l); s != full || err != api.OK {
		t.Error(len(s), err)
	}
	if s, err := Print(append(l, api.Event{})); s != "" || err != api.ErrLimit {
		t.Error(len(s), err)
	}
}

// Promise 37.2.
func TestPrint(t *testing.T) {
	tick := api.Event{Kind: api.Tick, Byte: 7, Rows: -5}
	for _, x := range []struct {
		l   []api.Event
		s   string
		err api.Errno
	}{
		{nil, "", 0}, {[]api.Event{byteOf('a'), byteOf(0xFF), tick, byteOf(0), sizeOf(3, 80), sizeOf(0, 9999), tick}, "bytes 61ff\ntick\nbytes 00\nsize 3 80\nsize 0 9999\ntick\n", 0}, {slices.Repeat([]api.Event{byteOf('a')}, PerLine+1), "bytes " + strings.Repeat("61", PerLine) + "\nbytes 61\n", 0}, {slices.Repeat([]api.Event{byteOf('a')}, PerLine), "bytes " + strings.Repeat("61", PerLine) + "\n", 0},
		{[]api.Event{tick, {}}, "", api.ErrArg}, {[]api.Event{{Kind: 4}}, "", api.ErrArg}, {[]api.Event{{Kind: -1}}, "", api.ErrArg}, {[]api.Event{sizeOf(-1, 5)}, "", api.ErrArg}, {[]api.Event{sizeOf(5, 10000)}, "", api.ErrArg}, {[]api.Event{sizeOf(math.MinInt, math.MaxInt)}, "", api.ErrArg}, {[]api.Event{{Kind: api.Byte, Byte: 'b', Rows: -1}}, "bytes 62\n", 0},
	} {
		if s, err := Print(x.l); s != x.s || err != x.err {
			t.Errorf("%v: %q %d", x.l, s, err)
		}
	}
	if l := Bytes("a\xff"); !slices.Equal(l, []api.Event{byteOf('a'), byteOf(0xFF)}) || len(Bytes("")) != 0 {
		t.Error(l)
	}
}

// Promise 37.3: what is printed is parsed.
func TestAny(t *testing.T) {
	chance := rand.New(rand.NewSource(37))
	for range 2000 {
		var l []api.Event
		for range chance.Intn(60) {
			switch chance.Intn(12) {
			case 0:
				l = append(l, api.Event{Kind: api.Tick})
			case 1:
				l = append(l, sizeOf(chance.Intn(10000), chance.Intn(12)))
			default:
				l = append(l, byteOf(byte(chance.Intn(256))))
			}
		}
		s, err := Print(l)
		again, _, is := Parse(s)
		if err != api.OK || is != api.OK || !slices.Equal(again, l) {
			t.Fatalf("%v: %q", l, s)
		}
	}
}
