package kinds

import (
	"fmt"
	"math"
	"reflect"
	"slices"
	"strings"
	"testing"

	"trammel/api"
)

// plainly writes a list of types so that nil and empty lists are the same.
func plainly(l []api.Type) string { return fmt.Sprintf("%d: %v", len(l), l) }

// holds makes the table of a tree, and holds it to the types that are wanted.
func holds(t *testing.T, what string, n api.Node, want ...api.Type) *Table {
	t.Helper()
	k, place, wrong := Of(n)
	if k == nil || place != 0 || wrong != api.OK {
		t.Fatalf("%.300q: %v, %d at %d", what, k, wrong, place)
	}
	if got := k.Types(); plainly(got) != plainly(want) {
		t.Errorf("%.300q: %s, want %s", what, plainly(got), plainly(want))
	}
	return k
}

// refuses holds Of to an error and its place.
func refuses(t *testing.T, what string, n api.Node, place int, wrong api.Errno) {
	t.Helper()
	if k, p, w := Of(n); k != nil || p != place || w != wrong {
		t.Errorf("%.300q: %d at %d, want %d at %d", what, w, p, wrong, place)
	}
}

// asPlain holds Of, and the table that it makes, to the second reading.
func asPlain(t *testing.T, what string, n api.Node) *Table {
	t.Helper()
	plain, place, wrong := plainOf(n)
	if wrong != api.OK {
		refuses(t, what, n, place, wrong)
		return nil
	}
	return holds(t, what, n, plain.types()...)
}

func record(name string, fields ...api.Field) api.Type {
	return api.Type{Kind: api.Record, Name: name, Fields: fields}
}

func fixed(length, elem int) api.Type { return api.Type{Kind: api.Fixed, Len: length, Elem: elem} }

func grow(elem int) api.Type { return api.Type{Kind: api.Grow, Elem: elem} }

func TestP6_1Examples(t *testing.T) {
	p := record("P", api.Field{Name: "a", Type: 17})
	q := record("Q", api.Field{Name: "b", Type: 18}, api.Field{Name: "c", Type: 19})
	for _, x := range []struct {
		source string
		want   []api.Type
	}{
		{"", nil},
		{"record P { a Q; } record Q { b []P; c [3]i8; }", []api.Type{p, q, grow(16), fixed(3, 1)}},
		{"fn f(a [][]i8) { x = new []i8(); }", []api.Type{grow(1), grow(16)}},
	} {
		holds(t, x.source, read(t, x.source), x.want...)
		asPlain(t, x.source, read(t, x.source))
	}
	for _, x := range []struct {
		source string
		place  int
		wrong  api.Errno
	}{
		{"record P {} record P {}", 19, api.ErrTwice},
		{"record P { a i8; a Q; }", 19, api.ErrType},
		{"record P { a i8; a i8; }", 17, api.ErrTwice},
		{"fn f(a [0]i8) {}", 7, api.ErrLen},
		{"fn f(a [65537]i8) {}", 7, api.ErrLen},
		{"fn f(a [70000]R) {}", 14, api.ErrType},
	} {
		refuses(t, x.source, read(t, x.source), x.place, x.wrong)
		asPlain(t, x.source, read(t, x.source))
	}
}

// Types are met where they stand, the records' fields among them, whatever the records' numbers are.
func TestP6_1Order(t *testing.T) {
	for _, x := range []struct {
		source string
		want   []api.Type
	}{
		{"fn f() {}", nil},
		{"fn f(a i8, b bytes) (i32, i64, bool) { x = new bytes(); }", nil},
		{"fn f() P { x = new []P(); } record P {}", []api.Type{record("P"), grow(16)}},
		{"fn f(a [2]P) {} record P { x []i8; } fn g() [2]P {}", []api.Type{record("P", api.Field{Name: "x", Type: 18}), fixed(2, 16), grow(1)}},
		{"record P { x []i8; } fn f(a [2]P) {}", []api.Type{record("P", api.Field{Name: "x", Type: 17}), grow(1), fixed(2, 16)}},
		{"record P { p P; } record Q { p P; q Q; }", []api.Type{record("P", api.Field{Name: "p", Type: 16}), record("Q", api.Field{Name: "p", Type: 16}, api.Field{Name: "q", Type: 17})}},
		{"fn f(a [1]i8, b []i8) ([2]i8, [1]i16) {} record i16 {}", []api.Type{record("i16"), fixed(1, 1), grow(1), fixed(2, 1), fixed(1, 16)}},
		{"fn f(a [3][2][1]i64) {}", []api.Type{fixed(1, 3), fixed(2, 16), fixed(3, 17)}},
		{"fn f() { x = new []i8(new []i32(), new []i64()) + new []bool(); }", []api.Type{grow(1), grow(2), grow(3), grow(4)}},
		{"fn f() { for i = new [1]i8(); new [2]i8(); i = new [3]i8() { x = new [4]i8(); } }", []api.Type{fixed(1, 1), fixed(2, 1), fixed(3, 1), fixed(4, 1)}},
		{"fn f() { switch new [1]i8() { case 1: x = new [2]i8(); default: x = new [3]i8(); } }", []api.Type{fixed(1, 1), fixed(2, 1), fixed(3, 1)}},
		{"fn f() { if new [1]i8() {} else if new [2]i8() {} else { new_ = new [3]i8(); } }", []api.Type{fixed(1, 1), fixed(2, 1), fixed(3, 1)}},
		{"fn f() { g(new [1]i8()).x[new [2]i8()] = new [3]i8(); push(new [4]i8(), new [5]i8()); return new [6]i8(); }", []api.Type{fixed(1, 1), fixed(2, 1), fixed(3, 1), fixed(4, 1), fixed(5, 1), fixed(6, 1)}},
	} {
		holds(t, x.source, read(t, x.source), x.want...)
		asPlain(t, x.source, read(t, x.source))
	}
}

// An array type that is named again, wherever it is, is the same; one that differs in one thing is another.
func TestP6_1Once(t *testing.T) {
	s := "record P { a []P; b []P; c [2][]P; d []P; } fn f(a []P, b [2][]P) ([]P, [2][]P) { x = new []P(); y = new [2][]P(new []P()); } fn g() []P { while new [2][]P() {} }"
	want := []api.Type{record("P", api.Field{Name: "a", Type: 17}, api.Field{Name: "b", Type: 17}, api.Field{Name: "c", Type: 18}, api.Field{Name: "d", Type: 17}), grow(16), fixed(2, 17)}
	holds(t, s, read(t, s), want...)
	s = "fn f(a []i8, b [1]i8, c []i32, d [2]i8, e [1]i32, g [][]i8, h [1][]i8, i [][1]i8) {}"
	holds(t, s, read(t, s), grow(1), fixed(1, 1), grow(2), fixed(2, 1), fixed(1, 2), grow(16), fixed(1, 16), grow(17))
}

func TestP6_1NoProgram(t *testing.T) {
	for _, n := range []api.Node{
		typeTree(t, "i8"), typeTree(t, "T"), typeTree(t, "[0]i8"), typeTree(t, "[]i8"),
		{Kind: api.NBlock, At: 7}, {Kind: api.NTrap, At: 7}, {Kind: api.XTrue, At: 7}, {Kind: api.XName, Text: "a", At: 7},
		{}, {Kind: api.NNone}, {Kind: api.NRecord, Text: "P"}, {Kind: api.NFunc, Text: "f"}, {Kind: api.NProgram, Text: "x", At: 7}, {Kind: api.NProgram, N: 1},
		{Kind: api.NProgram, Kids: []api.Node{{}}, At: 7}, {Kind: api.NProgram, Kids: []api.Node{{Kind: api.NRecord, Text: "while", At: 7}}},
		withType(api.Node{Kind: api.NGrow, At: 7}), withType(api.Node{Kind: api.XTrue}), withType(api.Node{Kind: api.NNamed, Text: "i8", N: 1}),
	} {
		refuses(t, fmt.Sprint(n), n, 0, api.ErrTree)
	}
	// what may not be is told ahead of all that is wrong in it else
	n := read(t, "record P { a T; a T; } record P {} fn f(a [0]T) {}")
	n.Kids = append(n.Kids, api.Node{Kind: api.NRecord})
	refuses(t, "a record without a name", n, 0, api.ErrTree)
	// a tree that holds itself, and those of MaxNodes nodes and of one more
	ring := api.Node{Kind: api.NProgram, Kids: make([]api.Node, 1)}
	ring.Kids[0] = ring
	refuses(t, "a ring", ring, 0, api.ErrLimit)
	n = withType(typeTree(t, "T"))
	n.Kids[0].Kids[0].Kids[0].Kids[0].At = 9
	block := &n.Kids[0].Kids[2]
	for range api.MaxNodes - 7 {
		block.Kids = append(block.Kids, api.Node{Kind: api.NReturn})
	}
	refuses(t, "MaxNodes nodes", n, 9, api.ErrType)
	block.Kids = append(block.Kids, api.Node{Kind: api.NReturn})
	refuses(t, "a node more", n, 0, api.ErrLimit)
}

func TestP6_1Records(t *testing.T) {
	most := row(api.MaxRecords, "\n", numbered("record P# {}"))
	k, _, wrong := Of(read(t, most))
	if wrong != api.OK || len(k.Types()) != 64 || k.Types()[63].Name != "P63" {
		t.Errorf("MaxRecords: %d", wrong)
	}
	at := func(s, of string) int { return strings.LastIndex(s, of) }
	for _, x := range []struct {
		more, of string
		wrong    api.Errno
	}{
		{"record Q {}", "Q", api.ErrLimit},
		{"record P0 {}", "P0", api.ErrLimit}, // both: the limit is named first
		{"fn f(a T) {} record Q { a T; }", "Q", api.ErrLimit},
	} {
		s := most + "\n" + x.more
		refuses(t, x.more, read(t, s), at(s, x.of), x.wrong)
		asPlain(t, x.more, read(t, s))
	}
	// a record of a name that one ahead has, further ahead than the limit
	s := "record P3 {} " + most + " record Q {}"
	refuses(t, s, read(t, s), at(s, "P3 "), api.ErrTwice)
	// functions are no records, and may have their names
	s = most + row(100, "\n", numbered("fn P#() {}"))
	asPlain(t, s, read(t, s))
	s = "fn P() {} record P {} fn P() {}"
	holds(t, s, read(t, s), record("P"))
	// all records ahead of all other nodes
	for s, place := range map[string]int{
		"record P { a T; } record P {}":                   25,
		"record P { a i8; a i8; } record P {}":            32,
		"fn f(a [0]T) {} record P {} record P {}":         35,
		"record P {} record P {} record P {}":             19,
		"record P {} record Q {} record Q {} record P {}": 31,
	} {
		refuses(t, s, read(t, s), place, api.ErrTwice)
	}
}

func TestP6_1Fields(t *testing.T) {
	of := func(fields string) string { return "record P { a []i8; } record Q { " + fields + " }" }
	most := row(api.MaxFields, " ", numbered("f# []P;"))
	k, _, wrong := Of(read(t, of(most)))
	if wrong != api.OK || len(k.Types()[1].Fields) != 32 || k.Types()[1].Fields[31] != (api.Field{Name: "f31", Type: 19}) {
		t.Fatalf("MaxFields: %d", wrong)
	}
	for _, x := range []struct {
		more, of string
		wrong    api.Errno
	}{
		{"g i8;", "g", api.ErrLimit},
		{"f0 i8;", "f0", api.ErrLimit}, // both: the limit is named first
		{"g T;", "T", api.ErrType},     // the Kids ahead of their node
		{"g [0]i8;", "[", api.ErrLen},
		{"g i8; h i8; h T;", "g", api.ErrLimit},
	} {
		s := of(most + " " + x.more)
		refuses(t, x.more, read(t, s), strings.LastIndex(s, x.of), x.wrong)
		asPlain(t, x.more, read(t, s))
	}
	for _, x := range []struct {
		s     string
		place int
		wrong api.Errno
	}{
		{"record P { a i8; b i8; a []i8; b T; }", 23, api.ErrTwice},
		{"record P { a i8; b T; a i8; }", 19, api.ErrType},
		{"record P { a i8; } record Q { a i8; b i8; b i8; }", 42, api.ErrTwice},
		{"fn f(a T) {} record P { a i8; a i8; }", 7, api.ErrType},
		{"record P { a i8; a i8; } fn f(a T) {}", 17, api.ErrTwice},
	} {
		refuses(t, x.s, read(t, x.s), x.place, x.wrong)
	}
	// what is a limit of records is none of parameters, nor need their names differ; other records may have the same fields
	s := "fn f(" + row(100, ", ", numbered("a i8")) + ") {}"
	holds(t, s, read(t, s))
	s = "record P { a i8; Q i8; P i8; } record Q { a i8; }"
	holds(t, s, read(t, s), record("P", api.Field{Name: "a", Type: 1}, api.Field{Name: "Q", Type: 1}, api.Field{Name: "P", Type: 1}), record("Q", api.Field{Name: "a", Type: 1}))
}

func TestP6_1Lengths(t *testing.T) {
	for _, n := range []uint64{0, 1, 2, 65535, 65536, 65537, 1 << 31, 1<<32 + 1, math.MaxInt64, 1 << 63, 1<<63 + 1, math.MaxUint64} {
		tree := withType(api.Node{Kind: api.NFixed, At: 9, N: n, Kids: []api.Node{{Kind: api.NNamed, Text: "i8"}}})
		if n >= 1 && n <= api.MaxArray {
			holds(t, fmt.Sprint(n), tree, fixed(int(n), api.I8))
		} else {
			refuses(t, fmt.Sprint(n), tree, 9, api.ErrLen)
		}
	}
	for _, x := range []struct {
		s     string
		place int
		wrong api.Errno
	}{
		{"fn f(a [0][0]i8) {}", 10, api.ErrLen},
		{"fn f(a [0][]T) {}", 12, api.ErrType},
		{"fn f(a [][0]i8) {}", 9, api.ErrLen},
		{"fn f(a [0]i8, b T) {}", 7, api.ErrLen},
		{"fn f() [0]i8 {}", 7, api.ErrLen},
		{"fn f() { x = new [0]i8(new T()); }", 17, api.ErrLen},
		{"fn f() { x = new i8(new T(), new [0]i8()); }", 24, api.ErrType},
		{"record P { a [65537]P; a T; }", 13, api.ErrLen},
	} {
		refuses(t, x.s, read(t, x.s), x.place, x.wrong)
		asPlain(t, x.s, read(t, x.s))
	}
}

func TestP6_1Names(t *testing.T) {
	for _, s := range []string{"T", "i16", "f", "a", "p", "PP", "I8", "Bool", "_"} {
		refuses(t, s, read(t, "record P {} fn f(a "+s+") {}"), 19, api.ErrType)
		refuses(t, s, read(t, "record P { a []"+s+"; }"), 15, api.ErrType)
		refuses(t, s, read(t, "fn f() { var x = new "+s+"(); }"), 21, api.ErrType)
		refuses(t, s, read(t, "fn f() "+s+" {}"), 7, api.ErrType)
	}
}

// MaxTypes types, records and arrays in all; an array more is refused, one that stands there already is not.
func TestP6_1Types(t *testing.T) {
	for _, records := range []int{0, 1, 64} {
		arrays := api.MaxTypes - records
		full := row(records, "\n", numbered("record P# {}")) + "\nfn f(" + row(arrays, ", ", func(i int) string { return fmt.Sprintf("a [%d]i8", i+1) }) + ") {}"
		k := asPlain(t, "MaxTypes", read(t, full))
		if k == nil || len(k.Types()) != api.MaxTypes || k.Find(typeTree(t, fmt.Sprintf("[%d]i8", arrays))) != 16+255 {
			t.Fatalf("MaxTypes, %d records", records)
		}
		for _, x := range []struct {
			more, of string
			wrong    api.Errno
		}{
			{"fn g(a [1]i8) [2]i8 {}", "", api.OK},
			{"fn g(a [300]i8) {}", "[", api.ErrLimit},
			{"fn g(a []i8) {}", "[", api.ErrLimit},
			{"fn g(a [][1]i8) {}", "[][", api.ErrLimit},
			{"fn g(a [][]i8) {}", "[]i", api.ErrLimit},
			{"fn g(a []T) {}", "T", api.ErrType},
			{"fn g(a [65537]i8) {}", "[", api.ErrLen}, // both: the length is named first
			{"fn g(a [0][]i8) {}", "[]", api.ErrLimit},
		} {
			s := full + x.more
			if x.wrong == api.OK {
				holds(t, x.more, read(t, s), k.Types()...)
			} else {
				refuses(t, x.more, read(t, s), strings.LastIndex(s, x.of), x.wrong)
			}
			asPlain(t, x.more, read(t, s))
		}
	}
	// a record more leaves room for an array less
	s := "fn f(" + row(api.MaxTypes, ", ", numbered("a [1#]i8")) + ") {} "
	if k := asPlain(t, "MaxTypes arrays", read(t, s)); k == nil || len(k.Types()) != api.MaxTypes {
		t.Error("MaxTypes arrays")
	}
	refuses(t, "a record more", read(t, s+"record P {}"), strings.LastIndex(s, "["), api.ErrLimit)
}

// Arrays within arrays, deeper than a source could be.
func TestP6_1Deep(t *testing.T) {
	i8 := api.Node{Kind: api.NNamed, Text: "i8"}
	for _, times := range []int{1, 64, 65, api.MaxTypes} {
		want := []api.Type{grow(api.I8)}
		for i := range times - 1 {
			want = append(want, grow(16+i))
		}
		k := holds(t, "deep", withType(deep(times, i8)), want...)
		if got := k.Find(deep(times, i8)); got != 15+times {
			t.Errorf("Find, %d deep: %d", times, got)
		}
		if got := k.Find(deep(times+1, i8)); got != 0 {
			t.Errorf("Find, one deeper than %d: %d", times, got)
		}
	}
	refuses(t, "one deeper than MaxTypes", withType(deep(api.MaxTypes+1, i8)), 256, api.ErrLimit)
	refuses(t, "as deep as may be", withType(deep(api.MaxNodes-7, i8)), 256, api.ErrLimit)
	refuses(t, "deeper than may be", withType(deep(api.MaxNodes-6, i8)), 0, api.ErrLimit)
	refuses(t, "wrong within", withType(deep(60000, api.Node{Kind: api.NNamed, Text: "T", At: 77})), 77, api.ErrType)
	value := api.Node{Kind: api.XNew, Kids: []api.Node{{Kind: api.NNamed, Text: "T", At: 78}}}
	for range 60000 {
		value = api.Node{Kind: api.XNeg, Kids: []api.Node{value}}
	}
	n := withType(i8)
	n.Kids[0].Kids[2].Kids = []api.Node{{Kind: api.NReturn, Kids: []api.Node{value}}}
	refuses(t, "deep in a value", n, 78, api.ErrType)
}

// Sources made at will, with slips and without, with places as they are read and with others, are as the second reading says.
func TestP6_1AtWill(t *testing.T) {
	seen := map[api.Errno]int{}
	for i, slips := range []int{0, 60, 15, 4} {
		m := newAuthor(int64(61+i), slips)
		for range 1500 {
			s := m.program()
			n := read(t, s)
			asPlain(t, s, n)
			m.place(&n)
			asPlain(t, s, n)
			_, _, wrong := Of(n)
			seen[wrong]++
			if slips == 0 && wrong != api.OK {
				t.Errorf("%s: %d", s, wrong)
			}
		}
	}
	for _, wrong := range []api.Errno{api.OK, api.ErrType, api.ErrLen, api.ErrTwice} {
		if seen[wrong] < 100 {
			t.Errorf("%d: met %d times", wrong, seen[wrong])
		}
	}
}

// A tree is neither changed, nor kept; what lies behind its lists is left alone.
func TestP6_1Unchanged(t *testing.T) {
	s := "record P { a []Q; b [2]i8; } record Q {} fn f(a [2][]P) [3]i8 { x = new [4]i8(); }"
	n, kept := roomy(read(t, s)), roomy(read(t, s))
	k, _, wrong := Of(n)
	if wrong != api.OK || !reflect.DeepEqual(n, kept) || !reflect.DeepEqual(behind(n), behind(kept)) {
		t.Fatalf("Of changed the tree, or refused it: %d", wrong)
	}
	before := k.Types()
	each(&n, func(n *api.Node) { *n = api.Node{Kind: api.NNamed, Text: "T", Kids: nil} })
	if !reflect.DeepEqual(k.Types(), before) || k.Find(typeTree(t, "[2][]P")) == 0 {
		t.Error("the table has kept the tree")
	}
	typ := roomy(typeTree(t, "[2][]P"))
	kept = roomy(typeTree(t, "[2][]P"))
	k.Find(typ)
	if !reflect.DeepEqual(typ, kept) || !reflect.DeepEqual(behind(typ), behind(kept)) {
		t.Error("Find changed the tree")
	}
}

// roomy tells a tree whose lists have room behind them, in which something lies.
func roomy(n api.Node) api.Node {
	kids := make([]api.Node, 0, len(n.Kids)+2)
	for _, k := range n.Kids {
		kids = append(kids, roomy(k))
	}
	rest := kids[len(kids):cap(kids)]
	for i := range rest {
		rest[i] = api.Node{Kind: api.NNamed, Text: "behind", At: i}
	}
	n.Kids = kids
	return n
}

// behind tells what lies behind the lists of a tree.
func behind(n api.Node) []api.Node {
	var list []api.Node
	each(&n, func(k *api.Node) { list = append(list, k.Kids[len(k.Kids):cap(k.Kids)]...) })
	return list
}

func TestP6_2OwnMemory(t *testing.T) {
	s := "record P { a []Q; b [2]i8; } record Q { c P; } fn f(a [2][]P) {}"
	k, _, _ := Of(read(t, s))
	first, second := k.Types(), k.Types()
	want := plainly(second)
	for i := range first {
		for j := range first[i].Fields {
			first[i].Fields[j] = api.Field{Name: "spoilt", Type: 99}
		}
		first[i].Fields = append(first[i].Fields, api.Field{Name: "more", Type: 1})
		first[i].Kind, first[i].Name, first[i].Elem, first[i].Len = 99, "spoilt", 99, 99
		first = append(first, first[i])
	}
	if plainly(second) != want || plainly(k.Types()) != want {
		t.Errorf("answers have memory in common: %s", plainly(second))
	}
	if p, typ, ok := k.Field(16, "b"); p != 1 || typ != 19 || !ok {
		t.Errorf("Field, behind a spoilt answer: %d, %d, %t", p, typ, ok)
	}
	if k.Find(typeTree(t, "[2]i8")) != 19 || k.Find(typeTree(t, "Q")) != 17 {
		t.Error("Find, behind a spoilt answer")
	}
	for i := range second[0].Fields { // lists of one answer, too
		second[0].Fields = append(second[0].Fields, second[0].Fields[i])
	}
	if second[1].Fields[0] != (api.Field{Name: "c", Type: 16}) {
		t.Error("two lists of one answer have memory in common")
	}
}

// Two tables know nothing of each other.
func TestP6_2TwoTables(t *testing.T) {
	k, _, _ := Of(read(t, "record P {} fn f(a []P) {}"))
	other, _, _ := Of(read(t, "record Q {} fn f(a []Q, b []i8) {}"))
	if plainly(k.Types()) != plainly([]api.Type{record("P"), grow(16)}) || plainly(other.Types()) != plainly([]api.Type{record("Q"), grow(16), grow(1)}) {
		t.Errorf("%s, %s", plainly(k.Types()), plainly(other.Types()))
	}
	if k.Find(typeTree(t, "Q")) != 0 || other.Find(typeTree(t, "P")) != 0 || k.Find(typeTree(t, "[]i8")) != 0 {
		t.Error("a table finds another's types")
	}
}

func TestP6_3Find(t *testing.T) {
	k, _, _ := Of(read(t, "record P { a Q; b i8; } record Q {} fn f(a [][3]P) [65536][]i8 {}"))
	for s, want := range map[string]int{
		"i8": 1, "i32": 2, "i64": 3, "bool": 4, "bytes": 5, "P": 16, "Q": 17, "[3]P": 18, "[][3]P": 19, "[]i8": 20, "[65536][]i8": 21,
		"R": 0, "p": 0, "f": 0, "a": 0, "b": 0, "[]P": 0, "[4]P": 0, "[3]Q": 0, "[3]R": 0, "[3][3]P": 0, "[][][3]P": 0, "[0]P": 0, "[]T": 0,
		"[65536]i8": 0, "[65537][]i8": 0, "[4295032832][]i8": 0, "[4294967299]P": 0, "[18446744073709551615]i8": 0, "[][65536][]i8": 0,
	} {
		n := typeTree(t, s)
		for range 2 {
			if got := k.Find(n); got != want {
				t.Errorf("Find(%s): %d, want %d", s, got, want)
			}
		}
		n.At = -3
		if got := k.Find(n); got != want {
			t.Errorf("Find(%s) at another place: %d, want %d", s, got, want)
		}
	}
}

// Trees that are none of a type, though some of their parts are, and such as may not be.
func TestP6_3NoType(t *testing.T) {
	k, _, _ := Of(read(t, "record P {} fn f(a []P, b [3]P) {}"))
	p := typeTree(t, "P")
	for kind := range 256 {
		for _, text := range []string{"", "P", "i8"} {
			for kids := range 3 {
				for _, n := range []uint64{0, 3} {
					x := api.Node{Kind: uint8(kind), Text: text, N: n, Kids: []api.Node{p, p}[:kids]}
					want := 0
					switch {
					case kind == 7 && text == "P" && kids == 0 && n == 0:
						want = 16
					case kind == 7 && text == "i8" && kids == 0 && n == 0:
						want = 1
					case kind == 9 && text == "" && kids == 1 && n == 0:
						want = 17
					case kind == 8 && text == "" && kids == 1 && n == 3:
						want = 18
					}
					if got := k.Find(x); got != want {
						t.Errorf("Find(%v): %d, want %d", x, got, want)
					}
				}
			}
		}
	}
	grown := func(kid api.Node) api.Node { return api.Node{Kind: api.NGrow, Kids: []api.Node{kid}} }
	for _, n := range []api.Node{
		grown(api.Node{}), grown(api.Node{Kind: api.XName, Text: "P"}), grown(api.Node{Kind: api.NWord, Text: "P"}), grown(api.Node{Kind: api.NNamed, Text: "P", N: 1}),
		grown(api.Node{Kind: api.NNamed, Text: "P", Kids: []api.Node{p}}), grown(api.Node{Kind: api.NNamed}), grown(api.Node{Kind: api.NRecord, Text: "P"}),
		read(t, "record P {}"), read(t, "record P {}").Kids[0], {Kind: api.NTypes, Kids: []api.Node{p}}, {Kind: api.NField, Text: "a", Kids: []api.Node{p}},
	} {
		if got := k.Find(n); got != 0 {
			t.Errorf("Find(%v): %d", n, got)
		}
	}
	ring := grown(p)
	ring.Kids[0] = ring
	if k.Find(ring) != 0 || k.Find(deep(1<<18, p)) != 0 {
		t.Error("Find of a tree without an end, or a very deep one")
	}
}

func TestP6_4Field(t *testing.T) {
	s := "record P { a Q; b i8; c []P; while_ bytes; } record Q {} record R { " + row(api.MaxFields, " ", numbered("f# [2]i8;")) + " }"
	k, _, _ := Of(read(t, s))
	ask := func(typ int, name string, place, of int, ok bool) {
		t.Helper()
		if p, o, is := k.Field(typ, name); p != place || o != of || is != ok {
			t.Errorf("Field(%d, %q): %d, %d, %t", typ, name, p, o, is)
		}
	}
	ask(16, "a", 0, 17, true)
	ask(16, "b", 1, 1, true)
	ask(16, "c", 2, 19, true)
	ask(16, "while_", 3, 5, true)
	for i := range api.MaxFields {
		ask(18, fmt.Sprint("f", i), i, 20, true)
	}
	for _, name := range []string{"", "d", "A", "P", "Q", "f0", "f32", "a ", "\xff", "b\x00"} {
		ask(16, name, 0, 0, false)
		ask(17, name, 0, 0, false)
	}
	ask(18, "f32", 0, 0, false)
	ask(18, "a", 0, 0, false)
	for _, typ := range []int{math.MinInt, -16, -1, 0, 1, 2, 3, 4, 5, 6, 7, 8, 15, 19, 20, 21, 22, 32, 255, math.MaxInt32, math.MaxInt} {
		for _, name := range []string{"", "a", "b", "f0"} {
			ask(typ, name, 0, 0, false)
		}
	}
}

// What a table is asked is what the second reading tells, of each type and each field.
func TestP6_4AtWill(t *testing.T) {
	m := newAuthor(64, 0)
	for range 1000 {
		s := m.program()
		n := read(t, s)
		plain, _, _ := plainOf(n)
		k, _, wrong := Of(n)
		if wrong != api.OK {
			t.Fatalf("%s: %d", s, wrong)
		}
		for i, text := range plain.texts {
			for _, name := range []string{"a", "b", "c", "P", "x", "y"} {
				at := slices.IndexFunc(plain.fields[text], func(f api.Field) bool { return f.Name == name })
				typ := 0
				if at >= 0 {
					typ = plain.fields[text][at].Type
				}
				if p, got, ok := k.Field(16+i, name); ok != (at >= 0) || p != max(at, 0) || got != typ {
					t.Errorf("%s: Field(%d, %s): %d, %d, %t", s, 16+i, name, p, got, ok)
				}
			}
		}
		for range 10 {
			text := m.typ()
			if got := k.Find(typeTree(t, text)); got != plain.number(text) {
				t.Errorf("%s: Find(%s): %d", s, text, got)
			}
		}
	}
}

// A table that is not there, or that Of did not make, is not asked; it answers nothing, all the same.
func TestP6_4NoTable(t *testing.T) {
	for _, k := range []*Table{nil, {}} {
		place, typ, ok := k.Field(16, "a")
		if place != 0 || typ != 0 || ok || len(k.Types()) != 0 || k.Find(typeTree(t, "[]i8")) != 0 || k.Find(typeTree(t, "P")) != 0 {
			t.Errorf("%v", k)
		}
	}
}
