package kinds

import (
	"fmt"
	"math"
	"strings"
	"testing"

	"trammel/api"
	"trammel/print"
)

func TestP6_6Get(t *testing.T) {
	l := sample()
	for typ, kind := range map[int]uint8{1: api.I8, 2: api.I32, 3: api.I64, 4: api.Bool, 5: api.Text} {
		for _, list := range [][]api.Type{nil, {}, l} {
			if got, ok := Get(list, typ); !ok || plainly([]api.Type{got}) != plainly([]api.Type{{Kind: kind}}) {
				t.Errorf("Get(%d): %v, %t", typ, got, ok)
			}
		}
	}
	for i, want := range sample() {
		if got, ok := Get(l, 16+i); !ok || plainly([]api.Type{got}) != plainly([]api.Type{want}) {
			t.Errorf("Get(%d): %v, %t, want %v", 16+i, got, ok, want)
		}
	}
	for _, typ := range []int{math.MinInt, math.MinInt + 15, -17, -16, -1, 0, 6, 7, 8, 9, 15, 16 + len(l), 17 + len(l), 256, math.MaxInt32, math.MaxInt - 15, math.MaxInt} {
		got, ok := Get(l, typ)
		if ok || got.Kind != 0 || got.Name != "" || len(got.Fields) != 0 || got.Elem != 0 || got.Len != 0 {
			t.Errorf("Get(%d): %v, %t", typ, got, ok)
		}
	}
	if _, ok := Get(nil, 16); ok {
		t.Error("Get of nothing")
	}
	long := several(1000, func(i int) api.Type { return fixed(i, 1) }) // a list that Check refuses
	if got, ok := Get(long, 16+999); !ok || got.Len != 999 {
		t.Errorf("Get of a long list: %v, %t", got, ok)
	}
}

func TestP6_6GetOwnMemory(t *testing.T) {
	l := sample()
	first, _ := Get(l, 16)
	second, _ := Get(l, 16)
	want := plainly(sample())
	first.Fields[0].Name = "spoilt"
	first.Fields = append(first.Fields, field("more", 1))
	if plainly(l) != want || plainly([]api.Type{second}) != plainly(sample()[:1]) {
		t.Errorf("Get shares memory: %s, %v", plainly(l), second)
	}
	room := []api.Field{field("a", 1), field("b", 1)}
	l = []api.Type{record("P", room[:1]...)}
	got, _ := Get(l, 16)
	_ = append(got.Fields, field("c", 1))
	if room[1].Name != "b" {
		t.Error("Get shares what lies behind a list")
	}
}

func TestP6_6Name(t *testing.T) {
	l := sample()
	for typ, want := range map[int]string{
		1: "i8", 2: "i32", 3: "i64", 4: "bool", 5: "bytes", 16: "P", 17: "Q", 18: "R", 19: "[]P", 20: "[3][]P", 21: "[][3][]P", 22: "[4][]P", 23: "[]i8",
		math.MinInt: "", math.MinInt + 15: "", -16: "", -1: "", 0: "", 6: "", 7: "", 8: "", 9: "", 15: "", 24: "", 25: "", math.MaxInt: "", math.MaxInt - 15: "",
	} {
		if got := Name(l, typ); got != want {
			t.Errorf("Name(%d): %q, want %q", typ, got, want)
		}
	}
	if Name(nil, 16) != "" || Name(nil, 5) != "bytes" || Name(nil, 0) != "" {
		t.Error("Name of an empty list")
	}
	big := []api.Type{fixed(api.MaxArray, 1), fixed(1, 16)}
	if got := Name(big, 17); got != "[1][65536]i8" {
		t.Errorf("Name: %q", got)
	}
}

// In lists that Check refuses Elems may lead round in a ring: of all lengths, come to over any number of arrays.
func TestP6_6Rings(t *testing.T) {
	if got := Name([]api.Type{grow(16)}, 16); got != "[][]?" {
		t.Errorf("a ring of one: %q", got)
	}
	if got := Name([]api.Type{fixed(2, 17), grow(16)}, 16); got != "[2][][2]?" {
		t.Errorf("a ring of two: %q", got)
	}
	if got := Name([]api.Type{grow(17), grow(17), record("P")}, 16); got != "[][][][]?" {
		t.Errorf("a ring behind an array: %q", got)
	}
	if got := Name([]api.Type{record("P", field("p", 16)), grow(16)}, 17); got != "[]P" {
		t.Errorf("a record that holds itself: %q", got)
	}
	for count := 1; count <= 40; count++ {
		for back := range count {
			l := several(count, func(i int) api.Type { return grow(17 + i) })
			l[count-1].Elem = 16 + back
			for i := range count {
				want := strings.Repeat("[]", count+1) + "?"
				if got := Name(l, 16+i); got != want {
					t.Fatalf("%d arrays, back to %d, from %d: %q", count, back, i, got)
				}
			}
		}
		l := several(count, func(i int) api.Type { return grow(17 + i) })
		l[count-1].Elem = api.Bool
		if got := Name(l, 16); got != strings.Repeat("[]", count)+"bool" {
			t.Errorf("%d arrays in a row: %q", count, got)
		}
	}
}

// A type of a list that has the Kind of one of the five, which Check refuses, is told by Get, and so it is written as that one.
func TestP6_6FiveInLists(t *testing.T) {
	for i, want := range []string{"i8", "i32", "i64", "bool", "bytes"} {
		plain := api.Type{Kind: uint8(1 + i)}
		other := api.Type{Kind: uint8(1 + i), Name: "P", Fields: []api.Field{field("a", 16)}, Elem: 17, Len: 3}
		for _, x := range []api.Type{plain, other} {
			l := []api.Type{x, grow(16), fixed(7, 17), record("Q"), x}
			if Check(l) != api.ErrTree {
				t.Errorf("Check takes a list of the Kind of %s", want)
			}
			for typ, name := range map[int]string{16: want, 17: "[]" + want, 18: "[7][]" + want, 19: "Q", 20: want, 21: "", 1 + i: want} {
				if got := Name(l, typ); got != name {
					t.Errorf("%s: Name(%d): %q, want %q", cut(l), typ, got, name)
				}
			}
			if got := Name([]api.Type{x}, 16); got != want {
				t.Errorf("%s alone: %q", want, got)
			}
			if got, ok := Get(l, 20); !ok || fmt.Sprint(got) != fmt.Sprint(x) {
				t.Errorf("Get: %v, %t, want %v", got, ok, x)
			}
		}
	}
	for _, kind := range []uint8{0, 9, 10, 15, 16, 17, 40, 127, 128, 254, 255} {
		l := []api.Type{{Kind: kind, Name: "P", Elem: 1, Len: 2}, grow(16)}
		if got, within := Name(l, 16), Name(l, 17); got != "" || within != "[]" {
			t.Errorf("a Kind that is no type's (%d): %q, and in an array %q", kind, got, within)
		}
	}
}

// Lists whose numbers lead nowhere: what is there is written, and nothing in the place of what is not.
func TestP6_6AnyLists(t *testing.T) {
	if got := Name([]api.Type{grow(99)}, 16); got != "[]" {
		t.Errorf("elements of no type: %q", got)
	}
	if got := Name([]api.Type{fixed(-7, 1), fixed(math.MinInt, 16)}, 17); got != "[-9223372036854775808][-7]i8" {
		t.Errorf("lengths below 0: %q", got)
	}
	m := newAuthor(66, 0)
	for range 3000 {
		l := several(m.Intn(8), func(int) api.Type {
			return api.Type{Kind: []uint8{0, 1, 2, 3, 4, 5, 6, 6, 7, 7, 7, 8, 8, 8, 8, 9, 255}[m.Intn(17)], Name: m.one("", "P", "a b"), Elem: m.Intn(28) - 1, Len: m.Intn(4) - 1}
		})
		for typ := -1; typ < 30; typ++ {
			if got, want := Name(l, typ), plainName(l, typ, 0); got != want {
				t.Fatalf("%s: Name(%d): %q, want %q", cut(l), typ, got, want)
			}
			got, ok := Get(l, typ)
			if ok != (typ >= 1 && typ <= 5 || typ >= 16 && typ < 16+len(l)) {
				t.Fatalf("%s: Get(%d): %v, %t", cut(l), typ, got, ok)
			}
			if typ >= 16 && ok && fmt.Sprint(got) != fmt.Sprint(l[typ-16]) {
				t.Fatalf("%s: Get(%d): %v", cut(l), typ, got)
			}
		}
	}
	long := several(1<<18, func(i int) api.Type { return grow(17 + i) })
	if got := Name(long, 16); len(got) != 2<<18 {
		t.Errorf("Name of a long row: %d bytes", len(got))
	}
	long[len(long)-1].Elem = 16
	if got := Name(long, 16); len(got) != 2<<18+3 || !strings.HasSuffix(got, "[]?") {
		t.Errorf("Name of a long ring: %d bytes", len(got))
	}
}

// Types are written as print writes their trees.
func TestP6_6AsPrint(t *testing.T) {
	m := newAuthor(67, 0)
	for range 1000 {
		text := m.typ()
		n := typeTree(t, text)
		k, _, wrong := Of(withType(n))
		if wrong != api.OK {
			t.Fatal(text, wrong)
		}
		want, wrong := print.Type(n)
		if got := Name(k.Types(), k.Find(n)); wrong != api.OK || got != want {
			t.Errorf("Name of %s: %q, want %q", text, got, want)
		}
	}
}
