package columns

import (
	"math"
	"math/rand"
	"slices"
	"strings"
	"testing"

	"typebar/api"
	"typebar/ucd"
)

// Promise 45.1.
func TestWidth(t *testing.T) {
	x := ucd.Build(api.Rows())
	for s, want := range map[string]int{"": 0, "abc": 3, "e\u0301": 1, "\u4E00a": 3, "\x01": 2, "\r\n": 4, "\u0301": 1} {
		if w := Width(x, []rune(s)); w != want {
			t.Errorf("%q: %d", s, w)
		}
	}
	for want, p := range map[int]Plan{0: {}, 5: {1, []int{5}}, 9: {2, []int{3, 4}}, 4: {1, []int{0, 0, 0}}} {
		if p.Total() != want {
			t.Error(p, p.Total())
		}
	}
}

// planOf tells the plan of so many rows.
func planOf(widths []int, rows int) Plan {
	p := Plan{Rows: rows}
	for from := 0; from < len(widths); from += rows {
		p.Widths = append(p.Widths, slices.Max(widths[from:min(from+rows, len(widths))]))
	}
	return p
}

func same(a, b Plan) bool { return a.Rows == b.Rows && slices.Equal(a.Widths, b.Widths) }

// Promise 45.2: the example, and widths by chance.
func TestFit(t *testing.T) {
	if p := Fit([]int{1, 2, 3}, 7); !same(p, Plan{2, []int{2, 3}}) {
		t.Error(p)
	}
	if Gap != 2 {
		t.Error("the gap")
	}
	if !same(Fit(nil, 80), Plan{}) || !same(Fit([]int{5, 9}, 3), Plan{2, []int{9}}) || !same(Fit([]int{0, 0}, -1), Plan{2, []int{0}}) || !same(Fit([]int{0, 0}, 2), Plan{1, []int{0, 0}}) || !same(Fit([]int{1, 2}, math.MinInt), Plan{2, []int{2}}) || !same(Fit([]int{1, 2}, math.MaxInt), Plan{1, []int{1, 2}}) {
		t.Error("edges")
	}
	chance := rand.New(rand.NewSource(45))
	for range 5000 {
		widths := make([]int, 1+chance.Intn(12))
		for i := range widths {
			widths[i] = chance.Intn(6)
		}
		cols := chance.Intn(30) - 2
		want := planOf(widths, len(widths))
		for rows := len(widths); rows > 0; rows-- {
			if p := planOf(widths, rows); p.Total() <= cols {
				want = p
			}
		}
		kept := slices.Clone(widths)
		if p := Fit(widths, cols); !same(p, want) || !slices.Equal(widths, kept) {
			t.Fatalf("%v in %d: %v, not %v", widths, cols, p, want)
		}
	}
	long := slices.Repeat([]int{1}, 200000)
	if p := Fit(long, 3); p.Rows != 200000 {
		t.Error(p.Rows)
	}
}

// Promises 45.3 and 45.5.
func TestLay(t *testing.T) {
	x := ucd.Build(api.Rows())
	for _, want := range []struct {
		words string
		cols  int
		rows  []string
	}{
		{"a bb ccc", 7, []string{"a   ccc", "bb"}}, {"a bb ccc", 10, []string{"a  bb  ccc"}}, {"a bb ccc", 2, []string{"a", "bb", "ccc"}}, {"", 9, nil}, {"\u4E00 e\u0301 abc x", 9, []string{"\u4E00  abc", "e\u0301   x"}}, {"a", 0, []string{"a"}}, {"a b c d e", 7, []string{"a  c  e", "b  d"}},
	} {
		var words [][]rune
		for _, w := range strings.Fields(want.words) {
			words = append(words, []rune(w))
		}
		if rows := Lay(x, words, want.cols); !slices.Equal(rows, want.rows) {
			t.Errorf("%q in %d: %q", want.words, want.cols, rows)
		}
	}
	if rows := Lay(x, [][]rune{nil, []rune("\x01")}, 9); !slices.Equal(rows, []string{"  ^A"}) {
		t.Errorf("%q", rows)
	}
	chance := rand.New(rand.NewSource(46))
	for range 2000 {
		cols := 1 + chance.Intn(20)
		var words [][]rune
		all := ""
		for i := range chance.Intn(9) {
			w := strings.Repeat(string(rune('a'+i)), chance.Intn(min(5, cols+1)))
			words = append(words, []rune(w))
			all += w
		}
		together := 0
		for _, row := range Lay(x, words, cols) {
			if Width(x, []rune(row)) > cols {
				t.Fatalf("%q in %d: %q", words, cols, row)
			}
			together += len(strings.ReplaceAll(row, " ", ""))
		}
		if together != len(all) {
			t.Fatalf("%q in %d", words, cols)
		}
	}
}

// Promise 45.4.
func TestGo(t *testing.T) {
	for rows := 1; rows < 8; rows++ {
		for n := 1; n < 12; n++ {
			real := min(rows, n)
			for at := range n {
				var row, col []int
				for i := range n {
					if i%real == at%real {
						row = append(row, i)
					}
					if i/real == at/real {
						col = append(col, i)
					}
				}
				next := func(l []int, by int) int { return l[(slices.Index(l, at)+by+len(l))%len(l)] }
				for way, want := range []int{next(row, -1), next(row, 1), next(col, -1), next(col, 1)} {
					if to, ok := (Plan{Rows: rows}).Go(n, at, way); to != want || !ok {
						t.Errorf("%d of %d in %d rows, %d: %d %v, not %d", at, n, rows, way, to, ok, want)
					}
				}
			}
		}
	}
	for _, x := range [][4]int{{0, 5, 0, 0}, {-1, 5, 0, 0}, {2, 0, 0, 0}, {2, -1, 0, 0}, {2, api.MaxText + 1, 0, 0}, {2, 5, -1, 0}, {2, 5, 5, 0}, {2, 5, 0, -1}, {2, 5, 0, 4}, {math.MinInt, math.MaxInt, math.MaxInt, 1}} {
		if to, ok := (Plan{Rows: x[0]}).Go(x[1], x[2], x[3]); to != 0 || ok {
			t.Error(x, to, ok)
		}
	}
	if to, ok := (Plan{Rows: math.MaxInt}).Go(api.MaxText, api.MaxText-1, ToDown); to != 0 || !ok {
		t.Error(to, ok)
	}
}
