// Package utf is layer 1: see shared/doc/01-utf.md.
package utf

import (
	"strings"

	"typebar/api"
)

// Decoder turns bytes into scalars as they come. (Its zero one waits for a first byte.)
type Decoder struct {
	held [3]byte // what lies behind the bytes that are held is 0, so that decoders can be compared
	n    int
}

// Valid tells whether a number is a scalar.
func Valid(r rune) bool {
	return r >= 0 && r < 0xD800 || r > 0xDFFF && r <= api.MaxScalar
}

// Size is how many bytes a scalar has.
func Size(r rune) int {
	switch {
	case !Valid(r):
		return 3
	case r < 0x80:
		return 1
	case r < 0x800:
		return 2
	case r < 0x10000:
		return 3
	}
	return 4
}

// Put tells a scalar's bytes; those of Bad, if it is none.
func Put(r rune) string {
	if !Valid(r) {
		r = api.Bad
	}
	var b [4]byte
	n := Size(r)
	if n == 1 {
		return string(append(b[:0], byte(r)))
	}
	for i := n - 1; i > 0; i-- {
		b[i] = byte(0x80 | r&0x3F)
		r >>= 6
	}
	b[0] = lead(n) | byte(r)
	return string(b[:n])
}

// lead is the first byte of so many, without the scalar's bits.
func lead(n int) byte {
	switch n {
	case 2:
		return 0xC0
	case 3:
		return 0xE0
	}
	return 0xF0
}

// Encode tells the bytes of scalars.
func Encode(l []rune) string {
	var out strings.Builder
	out.Grow(len(l))
	for _, r := range l {
		if r >= 0 && r < 0x80 {
			out.WriteByte(byte(r))
		} else {
			out.WriteString(Put(r))
		}
	}
	return out.String()
}

// row tells how many bytes the row has that a byte begins, and which second bytes it may have; 0: it begins none.
func row(b byte) (n int, low, high byte) {
	switch {
	case b < 0x80:
		return 1, 0, 0
	case b < 0xC2 || b > 0xF4:
		return 0, 0, 0
	case b < 0xE0:
		return 2, 0x80, 0xBF
	case b == 0xE0:
		return 3, 0xA0, 0xBF
	case b == 0xED:
		return 3, 0x80, 0x9F
	case b < 0xF0:
		return 3, 0x80, 0xBF
	case b == 0xF0:
		return 4, 0x90, 0xBF
	case b == 0xF4:
		return 4, 0x80, 0x8F
	}
	return 4, 0x80, 0xBF
}

// goesOn tells whether a byte may stand behind those that are held.
func (d Decoder) goesOn(b byte) bool {
	_, low, high := row(d.held[0])
	if d.n > 1 {
		low, high = 0x80, 0xBF
	}
	return b >= low && b <= high
}

// begin takes a byte that has none ahead of it.
func begin(b byte) (Decoder, rune, bool) {
	switch n, _, _ := row(b); n {
	case 0:
		return Decoder{}, api.Bad, true
	case 1:
		return Decoder{}, rune(b), true
	}
	return Decoder{held: [3]byte{b}, n: 1}, 0, false
}

// whole tells the scalar of the bytes that are held and a last one.
func (d Decoder) whole(b byte) rune {
	n, _, _ := row(d.held[0])
	r := rune(d.held[0] &^ lead(n))
	for _, x := range d.held[1:d.n] {
		r = r<<6 | rune(x&0x3F)
	}
	return r<<6 | rune(b&0x3F)
}

// step takes a byte: the decoder behind it, and how many of two scalars are told.
func (d Decoder) step(b byte) (Decoder, [2]rune, int) {
	if d.n > 0 && d.goesOn(b) {
		if n, _, _ := row(d.held[0]); n == d.n+1 {
			return Decoder{}, [2]rune{d.whole(b)}, 1
		}
		d.held[d.n] = b
		d.n++
		return d, [2]rune{}, 0
	}
	next, r, told := begin(b)
	var l [2]rune
	n := 0
	if d.n > 0 {
		l[n] = api.Bad
		n++
	}
	if told {
		l[n] = r
		n++
	}
	return next, l, n
}

// Feed takes a byte: the decoder behind it, and what is told.
func (d Decoder) Feed(b byte) (Decoder, []rune) {
	next, l, n := d.step(b)
	return next, append([]rune(nil), l[:n]...)
}

// End tells what is told, if no byte comes any more.
func (d Decoder) End() []rune {
	if d.n == 0 {
		return nil
	}
	return []rune{api.Bad}
}

// Pending tells how many bytes it has that are not told yet.
func (d Decoder) Pending() int { return d.n }

// Decode tells the scalars of bytes.
func Decode(s string) []rune {
	var d Decoder
	var out []rune
	for i := range len(s) {
		next, l, n := d.step(s[i])
		out = append(out, l[:n]...)
		d = next
	}
	return append(out, d.End()...)
}
