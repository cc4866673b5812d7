package loop

import (
	"math"
	"math/rand"
	"slices"
	"testing"

	"typebar/api"
)

// Promises 38.1 and 38.2: the example, and the edges.
func TestExample(t *testing.T) {
	a, b := api.Event{Kind: api.Byte, Byte: 'a', Rows: 9}, api.Event{Kind: api.Byte, Byte: 'b'}
	tick, size := api.Event{Kind: api.Tick, Byte: 3}, api.Event{Kind: api.Size, Rows: 3, Cols: 80, Byte: 1}
	box := New(2)
	for _, x := range []api.Event{a, tick, size, b} {
		if !box.Put(x) {
			t.Error(x)
		}
	}
	for _, x := range []api.Event{a, {}, {Kind: 4}, {Kind: -1}} {
		if box.Put(x) {
			t.Error(x)
		}
	}
	if n := box.Len(); n != [3]int{2, 1, 1} {
		t.Error(n)
	}
	want := []api.Event{{Kind: api.Size, Rows: 3, Cols: 80}, {Kind: api.Byte, Byte: 'a'}, {Kind: api.Byte, Byte: 'b'}, {Kind: api.Tick}}
	if l := box.All(0); len(l) != 0 || box.Len() != [3]int{2, 1, 1} {
		t.Error(l)
	}
	if l := box.All(-5); len(l) != 0 {
		t.Error(l)
	}
	if l := append(box.All(3), box.All(math.MaxInt)...); !slices.Equal(l, want) {
		t.Error(l)
	}
	if x, ok := box.Next(); x != (api.Event{}) || ok || box.Len() != [3]int{} {
		t.Error(x, ok)
	}
	for room, is := range map[int]bool{0: false, -1: false, math.MinInt: false, 1: true, api.MaxText: true, api.MaxText + 1: false, math.MaxInt: false} {
		if (New(room) != nil) != is {
			t.Error(room)
		}
	}
	for _, none := range []*Box{nil, {}} {
		x, ok := none.Next()
		if none.Put(a) || x != (api.Event{}) || ok || none.Len() != [3]int{} || len(none.All(5)) != 0 {
			t.Error("a box that is none has something")
		}
	}
}

// Promises 38.1 to 38.3: what happens by chance.
func TestAny(t *testing.T) {
	chance := rand.New(rand.NewSource(38))
	for range 500 {
		room := 1 + chance.Intn(4)
		box := New(room)
		var wait [4][]api.Event // those of each kind
		for i := range 60 {
			if chance.Intn(3) > 0 {
				x := api.Event{Kind: 1 + chance.Intn(3)}
				switch x.Kind {
				case api.Byte:
					x.Byte = byte(i)
				case api.Size:
					x.Rows = i
				}
				ok := box.Put(x)
				if ok != (len(wait[x.Kind]) < room) {
					t.Fatal(x, ok)
				}
				if ok {
					wait[x.Kind] = append(wait[x.Kind], x)
				}
			} else {
				x, ok := box.Next()
				var want api.Event
				for _, kind := range []int{api.Size, api.Byte, api.Tick} {
					if len(wait[kind]) > 0 {
						want, wait[kind] = wait[kind][0], wait[kind][1:]
						break
					}
				}
				if x != want || ok != (want.Kind != 0) {
					t.Fatal(x, want)
				}
			}
			if box.Len() != [3]int{len(wait[api.Byte]), len(wait[api.Tick]), len(wait[api.Size])} {
				t.Fatal(box.Len())
			}
		}
	}
}
