package editor

import (
	"math/rand"
	"slices"
	"strconv"
	"strings"
	"testing"

	"typebar/api"
	"typebar/bind"
	"typebar/compose"
	"typebar/decomp"
	"typebar/ring"
	"typebar/seg"
	"typebar/ucd"
)

// keys reads keys: ^N a control, m:x with Meta, x:HEX a scalar, p:text a paste, a name, or a scalar.
func keys(s string) []api.Key {
	names := []string{"", "up", "down", "right", "left", "home", "end", "insert", "delete", "pageup", "pagedown"}
	var out []api.Key
	for _, f := range strings.Fields(s) {
		var k api.Key
		switch n := slices.Index(names, f); {
		case n > 0:
			k = api.Key{Kind: api.KeyNamed, Rune: rune(n)}
		case f == "sp":
			k = api.Key{Kind: api.KeyChar, Rune: ' '}
		case f == "odd":
			k = api.Key{Kind: api.KeyOdd}
		case len(f) > 1 && f[0] == '^':
			r, _ := strconv.Atoi(f[1:])
			k = api.Key{Kind: api.KeyCtrl, Rune: rune(r)}
		case strings.HasPrefix(f, "m:^"):
			r, _ := strconv.Atoi(f[3:])
			k = api.Key{Kind: api.KeyCtrl, Rune: rune(r), Meta: true}
		case strings.HasPrefix(f, "m:"):
			k = api.Key{Kind: api.KeyChar, Rune: []rune(f[2:])[0], Meta: true}
		case strings.HasPrefix(f, "x:"):
			r, _ := strconv.ParseInt(f[2:], 16, 32)
			k = api.Key{Kind: api.KeyChar, Rune: rune(r)}
		case strings.HasPrefix(f, "p:"):
			k = api.Key{Kind: api.KeyPaste, Text: []rune(f[2:])}
		default:
			k = api.Key{Kind: api.KeyChar, Rune: []rune(f)[0]}
		}
		out = append(out, k)
	}
	return out
}

// shown tells an editor's line, with | where the cursor is, and [ where the mark is.
func shown(e *Editor) string {
	l, s := e.Line(), e.Now()
	var out []rune
	for i := range len(l) + 1 {
		if i == s.Mark {
			out = append(out, '[')
		}
		if i == s.Cursor {
			out = append(out, '|')
		}
		if i < len(l) {
			out = append(out, l[i])
		}
	}
	return string(out)
}

// run strikes keys: for each a B where it rang, an R where it said Redraw, and a - else; and what was accepted.
func run(e *Editor, l []api.Key) (string, []string) {
	var did strings.Builder
	var lines []string
	for _, k := range l {
		x := e.Key(k)
		switch {
		case x.Bell:
			did.WriteString("B")
		case x.Redraw:
			did.WriteString("R")
		default:
			did.WriteString("-")
		}
		for _, line := range x.Lines {
			lines = append(lines, string(line))
		}
	}
	return did.String(), lines
}

// Promises 26.1 to 26.6: what keys do.
func TestKeys(t *testing.T) {
	tables := ucd.Build(api.Rows())
	for _, x := range []struct{ name, keys, line, did string }{
		{"typing", "a b ^2 x:301", "\u00E1|b", "----"},
		{"the example of killing", "a b ^2 ^11 ^25", "ab|", "-----"},
		{"going", "a b ^1 ^6 ^6 ^6", "ab|", "-----B"}, {"going back", "a ^2 ^2", "|a", "--B"}, {"to the beginning and the end", "a ^1 ^1 ^5 ^5", "a|", "-----"}, {"named keys", "a b c left home right end", "abc|", "-------"},
		{"words", "p:ab,cd m:b m:b m:f m:f m:f", "ab,cd|", "-----B"}, {"by 0", "a m:0 ^2", "a|", "---"}, {"by minus", "a b ^1 m:- ^2", "a|b", "-----"}, {"by minus two", "a b c m:- m:2 ^6", "a|bc", "------"},
		{"a count", "m:1 m:2 x", "xxxxxxxxxxxx|", "---"}, {"a count of 0", "m:0 x", "|", "-B"}, {"minus once", "m:- x", "|", "-B"}, {"minus twice", "m:- m:- x", "x|", "---"}, {"minus, a digit, minus", "m:- m:2 m:- x", "xx|", "----"}, {"a count is used", "m:3 x y", "xxxy|", "---"},
		{"deleting", "a b c ^1 ^4", "|bc", "-----"}, {"deleting nothing", "a ^4", "a|", "-B"}, {"the key of deleting", "a ^1 delete", "|", "---"}, {"rubbing out", "a b ^127 ^8 ^8", "|", "----B"}, {"deleting two", "a b c ^1 m:2 ^4", "|c", "------"}, {"rubbing out by minus", "a b ^1 m:- ^8", "|b", "-----"}, {"deleting by 0", "a ^1 m:0 ^4", "|a", "---B"},
		{"killing words", "p:ab,cd ^1 m:d m:d ^25", "ab,cd|", "-----"}, {"killing back", "p:ab,cd m:^127 m:^8 ^25", "ab,cd|", "----"}, {"killing both ways", "p:ab ^2 ^11 ^21 ^25", "ab|", "-----"}, {"killing nothing", "^11 ^21 m:d m:^8", "|", "BBBB"}, {"killing apart", "p:ab,cd m:^8 ^5 m:^8 ^25", "ab,|", "-----"},
		{"killing, a count between", "p:ab,cd m:^8 m:1 m:^8 ^25", "ab,cd|", "-----"}, {"deleting is not killing", "p:abc ^21 x ^8 ^25", "abc|", "-----"},
		{"a region", "p:abcd ^0 ^2 ^2 ^23 ^25", "ab[cd|", "------"}, {"a region ahead", "p:abcd ^1 ^0 ^6 ^23", "[|bcd", "-----"}, {"copying", "p:ab ^0 ^1 m:w ^25", "ab|ab[", "-----"}, {"no mark", "a ^23 m:w", "a|", "-BB"}, {"nothing between", "a ^0 ^23 m:w", "a[|", "--BB"}, {"a region is not joined", "p:abcd ^0 ^2 ^11 ^2 ^23 ^25", "ab[c|", "-------"},
		{"exchanging", "p:abc ^0 ^1 ^24 ^24", "[abc|", "-----"}, {"exchanging with the beginning", "^0 a ^24 ^24", "|a[", "----"}, {"exchanging without a mark", "a ^24 ^24", "a|", "--B"},
		{"yanking nothing", "^25", "|", "B"}, {"turning the ring", "a ^21 b ^21 ^25 m:y m:y", "b|", "-------"}, {"turning once", "a ^21 b ^21 ^25 m:y", "a|", "------"}, {"turning what was not yanked", "a ^21 ^25 ^1 m:y", "|a", "----B"}, {"turning behind a count", "a ^21 b ^21 ^25 m:5 m:y", "a|", "-------"},
		{"undoing", "a ^31", "|", "--"}, {"the mark behind an undo", "p:abc ^0 ^1 x y ^31", "|abc[", "------"}, {"the mark within what is undone", "p:abc ^0 ^31", "[|", "---"}, {"typing behind a quote of a name", "a ^17 up b ^31", "a|", "--B--"}, {"undoing behind a search in the line", "x a b ^18 b ^6 ^31", "|", "-------"}, {"undoing nothing", "^31", "|", "B"}, {"undoing too much", "a ^4 m:5 ^31", "|", "-B-B"}, {"undoing behind the prefix", "a ^2 b ^24 ^21 ^24 u", "|", "-------"}, {"undoing by 0", "a m:0 ^31", "a|", "--B"}, {"undoing by minus", "a m:- ^31", "a|", "--B"}, {"undoing a kill", "p:ab ^2 ^11 ^31", "a|b", "----"},
		{"pasting", "p:ab p:c ^31", "ab|", "---"}, {"pasting nothing", "p:", "|", "B"}, {"typing behind a paste", "a p:b c ^31 ^31", "a|", "-----"},
		{"transposing", "a b ^20", "ba|", "---"}, {"transposing within", "p:abc ^2 ^2 ^20", "ba|c", "----"}, {"transposing one", "a ^20", "a|", "-B"}, {"transposing clusters", "a x:915 x:94d x:915 ^20", "\u0915\u094D\u0915a|", "-----"},
		{"a quote", "^17 ^1", "\x01|", "--"}, {"a quote with Meta", "^17 m:a", "a|", "--"}, {"a quote of a name", "^17 up a", "a|", "-B-"}, {"a quote, many times", "m:3 ^17 ^9 a", "\t\t\ta|", "----"}, {"a quote by minus", "m:- ^17 a", "|", "--B"}, {"a quote of a paste", "a ^17 p:b ^31", "|", "--B-"},
		{"nothing", "odd pageup m:x ^9 ^29 ^7 insert m:up", "|", "BBBBBBBB"}, {"none behind the prefix", "^24 a ^24 ^7 b", "b|", "-B-B-"}, {"redrawing", "a ^12", "a|", "-R"},
		{"the past", "a ^13 b ^13 up up up down down down", "|", "-----" + "-B" + "--B"}, {"the past, two back", "a ^13 b ^13 m:2 up", "a|", "------"}, {"the past, and what was left", "a ^13 x ^16 y ^14", "x|", "------"}, {"the past by minus", "a ^13 b ^13 m:2 up m:- up", "b|", "--------"},
		{"accepting behind a count", "m:5 ^10 a", "a|", "---"}, {"undoing a visit", "a ^13 x up ^31", "x|", "-----"}, {"the mark behind a visit", "p:abc ^13 p:xyz ^2 ^0 up", "[abc|", "------"},
		{"seeking back", "p:xaby ^13 p:cd ^13 ^18 a b ^1", "|xaby", "--------"}, {"where it is", "p:xaby ^13 p:cd ^13 ^18 b ^6", "xab|y", "-------"}, {"seeking again", "p:ab ^13 p:aab ^13 ^18 a b ^18 ^6", "a|b", "---------"}, {"seeking what is not there", "p:ab ^13 ^18 a x ^5", "ab|", "----B-"}, {"seeking on", "p:ab ^13 p:ac ^13 p:a up up ^19 a ^19 c ^19 ^0", "[|ac", "-----------B-"},
		{"seeking, and rubbing out", "p:ab ^13 p:xb ^13 ^18 b a ^8 ^5", "xb|", "------B--"}, {"seeking, and giving it up", "p:ab ^13 x ^18 a ^7 y", "xy|", "-----B-"}, {"seeking, and accepting", "p:ab ^13 ^18 a ^13", "|", "-----"}, {"seeking with Meta", "p:ab ^13 ^18 b m:b", "|ab", "-----"},
	} {
		e := New(tables, bind.Map{})
		did, _ := run(e, keys(x.keys))
		if s := shown(e); s != x.line || did != x.did {
			t.Errorf("%s: %q, %s; not %q, %s", x.name, s, did, x.line, x.did)
		}
	}
}

// Promise 26.6: what is accepted, and what is left of an editor then.
func TestAccept(t *testing.T) {
	tables := ucd.Build(api.Rows())
	e := New(tables, bind.Map{})
	_, lines := run(e, keys("a ^0 ^11 b ^21 ^13 c ^0 m:3 ^10 up ^18 b ^13"))
	if !slices.Equal(lines, []string{"", "c", "c"}) {
		t.Error(lines)
	}
	s := e.Now()
	if s.Cursor != 0 || s.Mark != -1 || s.Undo.Len() != 0 || s.Search.Pattern != nil || s.Seeks || s.Prefix || s.Quote || s.Count != (Count{}) || s.Last != Other || s.Run != 0 || len(e.Line()) != 0 {
		t.Error(s)
	}
	if l := s.Past.All(); len(l) != 1 || string(l[0]) != "c" || s.Past.At() != 0 {
		t.Error(l)
	}
	if l, _ := s.Ring.Top(); string(l) != "ab" {
		t.Error(string(l))
	}
}

// Promises 26.2 and 26.4: counts, and how much is undone together.
func TestCountsAndRuns(t *testing.T) {
	tables := ucd.Build(api.Rows())
	for _, x := range []struct {
		keys  string
		count Count
	}{
		{"m:5", Count{true, false, true, 5}}, {"m:9 m:0", Count{true, false, true, 90}}, {"m:-", Count{true, true, false, 0}}, {"m:- m:-", Count{true, false, false, 0}}, {"m:1 m:2 m:3 m:4 m:5", Count{true, false, true, api.MaxCount}}, {"m:0", Count{true, false, true, 0}}, {"m:2 ^24", Count{true, false, true, 2}}, {"m:2 ^17", Count{true, false, true, 2}}, {"m:2 ^17 a", Count{}}, {"m:2 odd", Count{}},
	} {
		e := New(tables, bind.Map{})
		run(e, keys(x.keys))
		if c := e.Now().Count; c != x.count {
			t.Errorf("%s: %v", x.keys, c)
		}
	}
	if Run != 20 || Other != 0 || Typed != 1 || Killed != 2 || Yanked != 3 {
		t.Error("numbers")
	}
	e := New(tables, bind.Map{})
	run(e, keys(strings.Repeat("a ", 2*Run+1)))
	if s := e.Now(); s.Undo.Len() != 3 || s.Run != 1 || s.Last != Typed {
		t.Error(s.Undo.Len(), s.Run, s.Last)
	}
	run(e, keys("^31"))
	if len(e.Line()) != 2*Run {
		t.Error(len(e.Line()))
	}
	run(e, keys("^31"))
	if len(e.Line()) != Run {
		t.Error(len(e.Line()))
	}
	run(e, keys("^1 b c m:2 d ^17 e"))
	if s := e.Now(); s.Undo.Len() != 2 || s.Run != 4 {
		t.Error(s.Undo.Len(), s.Run)
	}
}

// Promise 26.2, of a map of one's own: digits that are none, and commands that are none.
func TestOwnMap(t *testing.T) {
	tables := ucd.Build(api.Rows())
	m := bind.Map{}.With(bind.Stroke{Kind: api.KeyChar, Rune: 'q'}, bind.Digit).With(bind.Stroke{Kind: api.KeyChar, Rune: 'z'}, 77).With(bind.Stroke{Kind: api.KeyNamed, Rune: api.Up}, bind.Put).With(bind.Stroke{Kind: api.KeyChar, Rune: 'p'}, bind.Paste)
	e := New(tables, m)
	if did, _ := run(e, keys("m:2 q a z up p")); did != "---B-B" || string(e.Line()) != strings.Repeat("a", 20)+"\x01" {
		t.Error(did, string(e.Line()))
	}
}

// Promises 26.4 and 26.5: the limit, where nothing changes but that it rings.
func TestFull(t *testing.T) {
	tables := ucd.Build(api.Rows())
	e := New(tables, bind.Map{})
	e.Key(api.Key{Kind: api.KeyPaste, Text: slices.Repeat([]rune{'a'}, api.MaxText-1)})
	e.Key(api.Key{Kind: api.KeyChar, Rune: 'e'})
	for _, s := range []string{"c", "p:d", "m:9 e"} {
		was := e.Now()
		if did, _ := run(e, keys(s)); !strings.HasSuffix(did, "B") || len(e.Line()) != api.MaxText || e.Now().Cursor != api.MaxText || e.Now().Undo.Len() != was.Undo.Len() || e.Now().Last != Other {
			t.Error(s, did, len(e.Line()))
		}
	}
	if did, _ := run(e, keys("x:301 ^21 ^25 ^25")); did != "---B" || len(e.Line()) != api.MaxText {
		t.Error(did)
	}
	did, _ := run(e, keys("^1 ^11 x ^21 ^25 ^5 m:y"))
	if did != "------B" {
		t.Error(did)
	}
	if did, _ = run(e, keys("b ^25 m:y")); did != "--B" || string(e.Line()) != "xb" || e.Now().Last != Other {
		t.Error(did, len(e.Line()))
	}
}

// Promise 26.1: nil editors.
func TestNil(t *testing.T) {
	var e *Editor
	x := e.Key(api.Key{Kind: api.KeyChar, Rune: 'a'})
	if s := e.Now(); x.Bell || x.Lines != nil || len(e.Line()) != 0 || s.Mark != -1 || s.Cursor != 0 || s.Past.Len() != 0 {
		t.Error(s)
	}
	if s := New(nil, bind.Map{}).Now(); s.Mark != -1 || s.Cursor != 0 || s.Seeks {
		t.Error(s)
	}
	e = New(nil, bind.Map{})
	run(e, keys("a x:301 ^18 a ^18"))
	e.Now().Search.Pattern[0] = 'x'
	if string(e.Now().Search.Pattern) != "a" || string(e.Line()) != "a\u0301" {
		t.Error("the state shares memory with the editor")
	}
}

// anyKey tells a key by chance.
func anyKey(chance *rand.Rand) api.Key {
	all := keys("a b e , sp x:e9 x:301 x:301 x:323 x:915 x:94d x:1f1e6 x:1f1e7 x:4e00 x:600 x:1100 x:1161 ^0 ^1 ^2 ^2 ^4 ^5 ^6 ^7 ^8 ^10 ^11 ^12 ^14 ^16 ^17 ^18 ^19 ^20 ^21 ^23 ^24 ^25 ^25 ^31 ^127 m:^8 m:1 m:2 m:- m:b m:f m:d m:w m:y m:y up down delete odd p:e\u0301x p:\u0301\u1161 u")
	return all[chance.Intn(len(all))]
}

// Promises 26.7, T1 and T4: keys by chance.
func TestAny(t *testing.T) {
	tables := ucd.Build(api.Rows())
	chance := rand.New(rand.NewSource(26))
	for range 300 {
		e := New(tables, bind.Map{})
		for range 200 {
			k := anyKey(chance)
			was := string(e.Line())
			x := e.Key(k)
			l, s := e.Line(), e.Now()
			bounds := append(seg.Starts(tables, l), len(l))
			if !slices.Equal(compose.NFC(tables, l), l) || !slices.Contains(bounds, s.Cursor) || s.Mark != -1 && !slices.Contains(bounds, s.Mark) {
				t.Fatalf("%v: %q, now %x, %d %d", k, was, l, s.Cursor, s.Mark)
			}
			if first, cursor, ok := s.Undo.All(l, s.Cursor); !ok || s.Undo.Len() > 0 && cursor != 0 || len(first) != 0 && s.Undo.Len() < api.MaxGroups {
				t.Fatalf("%v: %q is undone to %q, %d, %v", k, string(l), string(first), cursor, ok)
			}
			if x.Lines != nil && (len(x.Lines) != 1 || len(l) != 0) {
				t.Fatalf("%v: %q", k, x.Lines)
			}
		}
	}
}

// Promise T3, as far as an editor goes: pastes that are canonically equivalent do the same.
func TestPaste(t *testing.T) {
	tables := ucd.Build(api.Rows())
	chance := rand.New(rand.NewSource(27))
	for range 500 {
		a, b := New(tables, bind.Map{}), New(tables, bind.Map{})
		for range 30 {
			k := anyKey(chance)
			a.Key(k)
			b.Key(k)
		}
		text := []rune("e\u0301\u0323x\u1100\u1161")[:1+chance.Intn(6)]
		a.Key(api.Key{Kind: api.KeyPaste, Text: text})
		b.Key(api.Key{Kind: api.KeyPaste, Text: decomp.NFD(tables, compose.NFC(tables, text))})
		for range 20 {
			k := anyKey(chance)
			x, y := a.Key(k), b.Key(k)
			s, r := a.Now(), b.Now()
			if x.Bell != y.Bell || shown(a) != shown(b) || s.Undo.Len() != r.Undo.Len() || !sameRing(s.Ring, r.Ring) {
				t.Fatalf("%q, %q", shown(a), shown(b))
			}
		}
	}
}

func sameRing(a, b ring.Ring) bool {
	l, i := a.All()
	m, k := b.All()
	return i == k && slices.EqualFunc(l, m, slices.Equal)
}
