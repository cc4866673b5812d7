package edges

import (
	"fmt"
	"math"
	"math/rand"
	"reflect"
	"strings"
	"testing"

	"typebar/api"
	"typebar/ucd"
)

// hand hands in values by chance: edges, ordinary ones, and what calls have answered.
type hand struct {
	chance *rand.Rand
	told   map[reflect.Type][]reflect.Value
	tables []*ucd.Tables
}

const (
	perType = 60  // how many answers of a type are held
	longest = 300 // how long an answer is that is held
	behind  = 0x7777
)

// keep holds an answer, to be handed in again.
func (h *hand) keep(v reflect.Value) {
	switch v.Kind() {
	case reflect.Int, reflect.Int32, reflect.Bool:
		return
	case reflect.Slice, reflect.String:
		if v.Len() > longest {
			return
		}
	}
	l := h.told[v.Type()]
	if len(l) < perType {
		h.told[v.Type()] = append(l, v)
	} else {
		l[h.chance.Intn(perType)] = v
	}
}

func (h *hand) number() int64 {
	switch h.chance.Intn(12) {
	case 0:
		return math.MinInt64
	case 1:
		return math.MaxInt64
	case 2:
		return math.MinInt32
	case 3:
		return math.MaxInt32
	case 4:
		return int64(h.chance.Intn(0x110010))
	case 5, 6:
		return int64([]int{0x301, 0xE9, 0x1100, 0x1161, 0x11A8, 0xAC00, 0x915, 0x94D, 0x1F1E6, 0x200D, 0x1F468, 0x600, 0xD, 0xA, 0xD800, 0x61}[h.chance.Intn(16)])
	case 7:
		return int64(h.chance.Intn(2000))
	}
	return int64(h.chance.Intn(12)) - 1
}

func (h *hand) text() string {
	const signs = "\x1b[]~012;HCKJ\r\n\xc3\xa9a\xff\x7f tick size bytes 61\n3a a\n"
	b := make([]byte, h.chance.Intn(12))
	for i := range b {
		b[i] = signs[h.chance.Intn(len(signs))]
	}
	return string(b)
}

// value tells a value of a type; lists of scalars have room behind them.
func (h *hand) value(t reflect.Type, deep int) reflect.Value {
	if t == reflect.TypeFor[*ucd.Tables]() {
		return reflect.ValueOf(h.tables[h.chance.Intn(len(h.tables))])
	}
	if l := h.told[t]; len(l) > 0 && h.chance.Intn(2) == 0 {
		return roomy(l[h.chance.Intn(len(l))])
	}
	v := reflect.New(t).Elem()
	switch t.Kind() {
	case reflect.Int, reflect.Int32:
		v.SetInt(h.number())
	case reflect.Uint8:
		v.SetUint(uint64(h.chance.Intn(256)))
	case reflect.Bool:
		v.SetBool(h.chance.Intn(2) == 0)
	case reflect.String:
		v.SetString(h.text())
	case reflect.Slice:
		for range h.chance.Intn(9) {
			if deep < 4 {
				v = reflect.Append(v, h.value(t.Elem(), deep+1))
			}
		}
		v = roomy(v)
	case reflect.Array:
		for i := range t.Len() {
			v.Index(i).Set(h.value(t.Elem(), deep+1))
		}
	case reflect.Struct:
		for i := range t.NumField() {
			if t.Field(i).IsExported() {
				v.Field(i).Set(h.value(t.Field(i).Type, deep+1))
			}
		}
	case reflect.Pointer:
		if h.chance.Intn(3) == 0 {
			v = reflect.New(t.Elem())
		}
	}
	return v
}

// roomy tells the same value, whose lists of scalars have room behind them, and something there.
func roomy(v reflect.Value) reflect.Value {
	switch v.Kind() {
	case reflect.Slice:
		n := v.Len()
		out := reflect.MakeSlice(v.Type(), n, n+2)
		for i := range n {
			out.Index(i).Set(roomy(v.Index(i)))
		}
		if v.Type().Elem().Kind() == reflect.Int32 {
			out.Slice(0, n+2).Index(n).SetInt(behind)
			out.Slice(0, n+2).Index(n + 1).SetInt(behind)
		}
		return out
	case reflect.Struct:
		out := reflect.New(v.Type()).Elem()
		out.Set(v)
		for i := range v.NumField() {
			if v.Type().Field(i).IsExported() {
				out.Field(i).Set(roomy(v.Field(i)))
			}
		}
		return out
	}
	return v
}

// look tells a value as text, with what lies behind its lists.
func look(v reflect.Value) string {
	var s strings.Builder
	switch v.Kind() {
	case reflect.Pointer:
		return ""
	case reflect.Slice:
		if v.Type().Elem().Kind() == reflect.Int32 {
			return fmt.Sprint(v.Slice(0, v.Cap()).Interface())
		}
		for i := range v.Len() {
			s.WriteString(look(v.Index(i)))
		}
	case reflect.Struct:
		for i := range v.NumField() {
			if v.Type().Field(i).IsExported() {
				s.WriteString(look(v.Field(i)))
			}
		}
	}
	return s.String() + fmt.Sprintf("%+v", v.Interface())
}

// looks tells values as text; objects, which are pointers, are left out.
func looks(l []reflect.Value) string {
	var out []string
	for _, v := range l {
		out = append(out, look(v))
	}
	return strings.Join(out, "\n")
}

// do calls something; what panics is told.
func do(x call, in []reflect.Value) (out []reflect.Value, panics any) {
	defer func() { panics = recover() }()
	if x.f.Type().IsVariadic() {
		return x.f.CallSlice(in), nil
	}
	return x.f.Call(in), nil
}

// same tells whether answers are the same, all the way down.
func same(a, b []reflect.Value) bool {
	for i := range a {
		if !reflect.DeepEqual(a[i].Interface(), b[i].Interface()) {
			return false
		}
	}
	return true
}

// changes tells whether a call's first argument is an object that it may change, or its answer has channels, which are never the same.
func (x call) changes() bool {
	t := x.f.Type()
	return t.NumIn() > 0 && t.In(0).Kind() == reflect.Pointer && t.In(0) != reflect.TypeFor[*ucd.Tables]() || x.name == "cases.Word" || x.name == "loop.New"
}

// Promise P1, and the rules R1, R4 and R5: no call panics, whatever is handed in; it changes nothing that is handed in, nor what lies behind it; and answers the same again.
func TestAll(t *testing.T) {
	h := &hand{rand.New(rand.NewSource(1)), map[reflect.Type][]reflect.Value{}, []*ucd.Tables{nil, ucd.Build(api.Rows()), ucd.Build(api.Rows())}}
	all := calls()
	for range 150000 {
		x := all[h.chance.Intn(len(all))]
		if (x.name == "ucd.Build" || x.name == "trie.Build") && h.chance.Intn(50) > 0 {
			continue
		}
		var in []reflect.Value
		for i := range x.f.Type().NumIn() {
			in = append(in, h.value(x.f.Type().In(i), 0))
		}
		was := looks(in)
		out, panics := do(x, in)
		if panics != nil {
			t.Fatalf("%s panics at %s: %v", x.name, was, panics)
		}
		if now := looks(in); now != was {
			t.Fatalf("%s changes what was handed in: %s, now %s", x.name, was, now)
		}
		if again, _ := do(x, in); !x.changes() && !same(out, again) {
			t.Fatalf("%s of %s: %s, and then %s", x.name, was, looks(out), looks(again))
		}
		for _, v := range out {
			h.keep(v)
		}
	}
}
