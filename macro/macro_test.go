package macro

import (
	"math/rand"
	"slices"
	"strings"
	"testing"

	"typebar/api"
	"typebar/bind"
	"typebar/editor"
	"typebar/ucd"
)

// steps reads steps: great letters are calls, of the small ones; all else are keys.
func steps(s string) []Step {
	var out []Step
	for _, r := range s {
		if r >= 'A' && r <= 'Z' {
			out = append(out, Step{Call: true, Name: r - 'A' + 'a'})
		} else {
			out = append(out, Step{Key: api.Key{Kind: api.KeyChar, Rune: r}})
		}
	}
	return out
}

// tell tells keys as text.
func tell(l []api.Key) string {
	var out strings.Builder
	for _, k := range l {
		out.WriteRune(k.Rune)
	}
	return out.String()
}

func sameKey(a, b api.Key) bool {
	return a.Kind == b.Kind && a.Rune == b.Rune && a.Meta == b.Meta && slices.Equal(a.Text, b.Text)
}

// bookOf reads a book: names, and what they stand for.
func bookOf(l ...string) Book {
	var b Book
	for _, s := range l {
		b, _ = b.Set(rune(s[0]), steps(s[1:]))
	}
	return b
}

// Promise 46.2.
func TestExpand(t *testing.T) {
	for _, x := range []struct {
		book []string
		keys string
		err  api.Errno
	}{
		{[]string{"axB", "by"}, "xy", 0}, {[]string{"axB", "byA"}, "", api.ErrState}, {[]string{"aA"}, "", api.ErrState}, {[]string{"axB"}, "", api.ErrNone}, {nil, "", api.ErrNone}, {[]string{"a"}, "", 0}, {[]string{"aBBxB", "byC", "cz"}, "yzyzxyz", 0}, {[]string{"aBC", "bD", "cD", "dq"}, "qq", 0}, {[]string{"aBZ", "bA"}, "", api.ErrState}, {[]string{"aZB", "bA"}, "", api.ErrNone},
	} {
		l, err := bookOf(x.book...).Expand('a')
		if tell(l) != x.keys || err != x.err || err != 0 && l != nil {
			t.Errorf("%v: %q %d", x.book, tell(l), err)
		}
	}
}

// Promise 46.2: the limit counts keys, and calls.
func TestExpandLimit(t *testing.T) {
	if MaxKeys != 1000 || MaxNames != 100 || MaxExpand != 20000 {
		t.Error("the limits")
	}
	for _, x := range []struct {
		calls, keys int // of b, which has keys
		more        string
		err         api.Errno
	}{{20, 999, "", api.OK}, {20, 999, "x", api.ErrLimit}, {20, 998, strings.Repeat("x", 20), api.OK}, {20, 998, strings.Repeat("x", 21), api.ErrLimit}, {20, 998, strings.Repeat("x", 20) + "C", api.ErrLimit}, {20, 1000, "", api.ErrLimit}, {20, 999, "A", api.ErrLimit}, {19, 999, "A", api.ErrState}, {19, 999, "Z", api.ErrNone}} {
		var b Book
		b, _ = b.Set('a', steps(strings.Repeat("B", x.calls)+x.more))
		b, _ = b.Set('b', steps(strings.Repeat("k", x.keys)))
		b, _ = b.Set('c', nil)
		l, err := b.Expand('a')
		if err != x.err || err == 0 && len(l) != x.calls*x.keys+len(x.more) || err != 0 && l != nil {
			t.Errorf("%v: %d keys, %d", x, len(l), err)
		}
	}
	// Names that call, twice each, one that calls nothing.
	var b Book
	for name := 'b'; name <= 'z'; name++ {
		b, _ = b.Set(name, []Step{{Call: true, Name: name - 1}, {Call: true, Name: name - 1}})
	}
	b, _ = b.Set('a', nil)
	if l, err := b.Expand('z'); l != nil || err != api.ErrLimit {
		t.Error(len(l), err)
	}
	if l, err := b.Expand('d'); len(l) != 0 || err != api.OK {
		t.Error(len(l), err)
	}
}

// Promise 46.1.
func TestBook(t *testing.T) {
	var b Book
	l, ok := b.Steps('a')
	if len(l) != 0 || ok || len(b.Names()) != 0 {
		t.Error("the empty book")
	}
	for i := range MaxNames {
		b, _ = b.Set(rune(1000-i), steps("x"))
	}
	names := b.Names()
	if len(names) != MaxNames || !slices.IsSorted(names) || names[0] != 1001-MaxNames {
		t.Error(names)
	}
	c, err := b.Set(-5, steps("x"))
	if err != api.ErrFull || len(c.Names()) != MaxNames {
		t.Error(err)
	}
	if c, err = b.Set(-5, make([]Step, MaxKeys+1)); err != api.ErrLimit || len(c.Names()) != MaxNames {
		t.Error(err)
	}
	if c, err = b.Set(1000, make([]Step, MaxKeys)); err != api.OK {
		t.Error(err)
	}
	was, _ := b.Steps(1000)
	now, _ := c.Steps(1000)
	if len(was) != 1 || len(now) != MaxKeys {
		t.Error("a book was changed")
	}
	if c, err = c.Set(1000, make([]Step, MaxKeys+1)); err != api.ErrLimit || len(c.Names()) != MaxNames {
		t.Error(err)
	}
	if now, _ = c.Steps(1000); len(now) != MaxKeys {
		t.Error("the book is not as it was")
	}
	if c, _ = b.Set(1000, nil); len(c.Names()) != MaxNames {
		t.Error("a name of no steps")
	}
	if now, ok = c.Steps(1000); len(now) != 0 || !ok {
		t.Error("a name of no steps")
	}
	paste := []Step{{Key: api.Key{Kind: api.KeyPaste, Text: []rune("ab")}}}
	c, _ = Book{}.Set('p', paste)
	paste[0].Key.Text[0] = 'x'
	now, _ = c.Steps('p')
	now[0].Key.Text[0] = 'y'
	keys, _ := c.Expand('p')
	keys[0].Text[0] = 'z'
	if now, _ = c.Steps('p'); string(now[0].Key.Text) != "ab" {
		t.Error("a book shares memory")
	}
}

// Promise 46.3.
func TestRecorder(t *testing.T) {
	var off Recorder
	a := api.Key{Kind: api.KeyChar, Rune: 'a'}
	r, ok := off.Strike(a)
	if _, l := r.Stop(); r.On || !ok || len(l) != 0 {
		t.Error(l, ok)
	}
	r = Start()
	if !r.On {
		t.Error("it is off")
	}
	for i := range MaxKeys {
		was := r
		r, ok = r.Strike(api.Key{Kind: api.KeyChar, Rune: rune(i), Meta: i == 5})
		if _, l := was.Stop(); !ok || len(l) != i {
			t.Fatal(i, ok, len(l))
		}
	}
	again, ok := r.Strike(a)
	stopped, l := again.Stop()
	if ok || !again.On || len(l) != MaxKeys || stopped.On || l[5].Key.Rune != 5 || !l[5].Key.Meta || l[5].Call {
		t.Error(ok, len(l))
	}
	if _, l = stopped.Stop(); len(l) != 0 {
		t.Error(l)
	}
	text := []rune("ab")
	r, _ = Start().Strike(api.Key{Kind: api.KeyPaste, Text: text})
	text[0] = 'x'
	_, l = r.Stop()
	l[0].Key.Text[1] = 'x'
	p, _ := r.Strike(a)
	q, _ := r.Strike(api.Key{Kind: api.KeyOdd})
	if _, l = r.Stop(); string(l[0].Key.Text) != "ab" || len(l) != 1 {
		t.Error("a recorder shares memory")
	}
	_, l = p.Stop()
	if _, m := q.Stop(); l[1].Key.Kind != api.KeyChar || m[1].Key.Kind != api.KeyOdd {
		t.Error("recorders share memory")
	}
}

// Promises 46.4 and T8: what was recorded, and set, is struck again, and does what it did.
func TestAny(t *testing.T) {
	tables := ucd.Build(api.Rows())
	chance := rand.New(rand.NewSource(46))
	for range 300 {
		r := Start()
		e := editor.New(tables, bind.Map{})
		var struck []api.Key
		for range chance.Intn(40) {
			k := []api.Key{{Kind: api.KeyChar, Rune: 'a'}, {Kind: api.KeyChar, Rune: 0x301}, {Kind: api.KeyCtrl, Rune: rune(chance.Intn(32))}, {Kind: api.KeyPaste, Text: []rune("e x")}, {Kind: api.KeyChar, Rune: 'b', Meta: true}, {Kind: api.KeyNamed, Rune: api.Up}, {Kind: api.KeyOdd}}[chance.Intn(7)]
			struck = append(struck, k)
			r, _ = r.Strike(k)
			e.Key(k)
		}
		_, l := r.Stop()
		b, err := Book{}.Set('m', l)
		keys, err2 := b.Expand('m')
		if err != api.OK || err2 != api.OK || !slices.EqualFunc(keys, struck, sameKey) {
			t.Fatal(struck, keys, err, err2)
		}
		again := editor.New(tables, bind.Map{})
		for _, k := range keys {
			again.Key(k)
		}
		if string(again.Line()) != string(e.Line()) || again.Now().Cursor != e.Now().Cursor || again.Now().Past.Len() != e.Now().Past.Len() {
			t.Fatalf("%q, not %q", string(again.Line()), string(e.Line()))
		}
	}
}
