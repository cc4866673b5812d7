package word

import (
	"slices"
	"testing"

	"typebar/api"
	"typebar/ucd"
)

// Rule R1: long texts come to an end, those of Flags too, of which one can't be told from afar.
func TestLong(t *testing.T) {
	x := ucd.Build(api.Rows())
	for _, r := range []rune{0x1F1E6, 0x301, 'a', ' ', 0x915, 0x94D} {
		l := slices.Repeat([]rune{r}, 100000)
		if at := Back(x, l, len(l)); at != 0 {
			t.Errorf("%x: %d", r, at)
		}
		if at := Forward(x, l, 0); at != len(l) {
			t.Errorf("%x: %d", r, at)
		}
	}
}
