package kinds

import (
	"fmt"
	"math"
	"reflect"
	"slices"
	"testing"

	"trammel/api"
)

// taken holds Check to an answer, and the second reading with it.
func taken(t *testing.T, what string, l []api.Type, want api.Errno) {
	t.Helper()
	if got := Check(l); got != want {
		t.Errorf("%s: %d, want %d (%s)", what, got, want, cut(l))
	}
	if got := plainCheck(l); got != want {
		t.Errorf("%s: the second reading says %d, want %d (%s)", what, got, want, cut(l))
	}
}

// cut writes a list of types for a message.
func cut(l []api.Type) string {
	s := plainly(l)
	return s[:min(len(s), 500)]
}

func field(name string, typ int) api.Field { return api.Field{Name: name, Type: typ} }

// several tells as many types as are asked for, each made of its place.
func several(count int, f func(int) api.Type) []api.Type {
	var list []api.Type
	for i := range count {
		list = append(list, f(i))
	}
	return list
}

// sample tells a list that may be, with all kinds of types in it.
func sample() []api.Type {
	return []api.Type{
		record("P", field("a", 17), field("b", 21), field("c", 5)),
		record("Q"),
		record("R", field("P", 16), field("a", 1)),
		grow(16),
		fixed(3, 19),
		grow(20),
		fixed(4, 19),
		grow(1),
	}
}

func TestP6_5Lists(t *testing.T) {
	taken(t, "nil", nil, api.OK)
	taken(t, "empty", []api.Type{}, api.OK)
	taken(t, "the sample", sample(), api.OK)
	for i, x := range []struct {
		list []api.Type
		want api.Errno
	}{
		{[]api.Type{record("P")}, api.OK},
		{[]api.Type{{Kind: api.Record, Name: "P", Fields: []api.Field{}}}, api.OK},
		{[]api.Type{{Kind: api.Grow, Elem: 1, Fields: []api.Field{}}}, api.OK},
		{[]api.Type{record("P", field("p", 16))}, api.OK},
		{[]api.Type{record("P", field("p", 17)), record("Q", field("q", 18)), grow(17)}, api.OK},
		{[]api.Type{record("P", field("p", 17))}, api.ErrTree},
		{[]api.Type{grow(1), grow(2), grow(3), grow(4), grow(5)}, api.OK},
		{[]api.Type{grow(16)}, api.ErrTree},
		{[]api.Type{grow(17), grow(1)}, api.ErrTree},
		{[]api.Type{grow(17), grow(16)}, api.ErrTree},
		{[]api.Type{grow(1), grow(16)}, api.OK},
		{[]api.Type{grow(17), record("P")}, api.ErrTree},
		{[]api.Type{grow(1), record("P")}, api.ErrTree},
		{[]api.Type{record("P"), grow(1), record("Q")}, api.ErrTree},
		{[]api.Type{grow(1), grow(1)}, api.ErrTree},
		{[]api.Type{fixed(2, 1), fixed(2, 1)}, api.ErrTree},
		{[]api.Type{fixed(2, 1), grow(1), fixed(3, 1), fixed(2, 2)}, api.OK},
		{[]api.Type{grow(1), fixed(2, 1), grow(2), grow(1)}, api.ErrTree},
		{[]api.Type{record("P"), record("P")}, api.ErrTree},
		{[]api.Type{record("P"), record("Q"), record("P")}, api.ErrTree},
		{[]api.Type{record("P", field("x", 1)), record("Q", field("x", 1))}, api.OK},
		{[]api.Type{{}}, api.ErrTree},
		{[]api.Type{{}, {}}, api.ErrTree},
	} {
		taken(t, fmt.Sprint("list ", i), x.list, x.want)
	}
}

// The sample, with one thing changed.
func TestP6_5OneThing(t *testing.T) {
	for what, change := range map[string]func(l []api.Type){
		"no kind": func(l []api.Type) { l[1].Kind = 0 }, "a kind beyond": func(l []api.Type) { l[1].Kind = 9 }, "the kind i8": func(l []api.Type) { l[7] = api.Type{Kind: 1} }, "the kind bytes": func(l []api.Type) { l[7].Kind = 5 }, "a record as an array": func(l []api.Type) { l[1].Kind = api.Grow }, "an array as a record": func(l []api.Type) { l[7].Kind = api.Record }, "a Fixed as a Grow": func(l []api.Type) { l[4].Kind = api.Grow }, "a Grow as a Fixed": func(l []api.Type) { l[7].Kind = api.Fixed },
		"no name": func(l []api.Type) { l[1].Name = "" }, "a kept word": func(l []api.Type) { l[1].Name = "while" }, "one of the five": func(l []api.Type) { l[1].Name = "i8" }, "a digit first": func(l []api.Type) { l[1].Name = "1P" }, "a blank in a name": func(l []api.Type) { l[1].Name = "P " }, "another's name": func(l []api.Type) { l[2].Name = "P" },
		"a record's Elem": func(l []api.Type) { l[1].Elem = 1 }, "a record's Elem below 0": func(l []api.Type) { l[1].Elem = -1 }, "a record's Len": func(l []api.Type) { l[1].Len = 1 },
		"an array's name": func(l []api.Type) { l[4].Name = "A" }, "a Grow's name": func(l []api.Type) { l[3].Name = "A" }, "an array's field": func(l []api.Type) { l[4].Fields = []api.Field{field("a", 1)} }, "a Grow's field": func(l []api.Type) { l[3].Fields = []api.Field{field("a", 1)} }, "a Grow's Len": func(l []api.Type) { l[3].Len = 1 }, "a Grow's Len below 0": func(l []api.Type) { l[3].Len = -1 },
		"Len 0": func(l []api.Type) { l[4].Len = 0 }, "Len below 0": func(l []api.Type) { l[4].Len = -1 }, "Len beyond": func(l []api.Type) { l[4].Len = api.MaxArray + 1 }, "a huge Len": func(l []api.Type) { l[4].Len = math.MaxInt }, "Len far below 0": func(l []api.Type) { l[4].Len = math.MinInt }, "the other's Len": func(l []api.Type) { l[4].Len = 4 },
		"Elem 0": func(l []api.Type) { l[4].Elem = 0 }, "Elem 6": func(l []api.Type) { l[4].Elem = 6 }, "Elem 15": func(l []api.Type) { l[4].Elem = 15 }, "Elem below 0": func(l []api.Type) { l[4].Elem = -1 }, "Elem itself": func(l []api.Type) { l[4].Elem = 20 }, "Elem behind": func(l []api.Type) { l[4].Elem = 21 }, "Elem past the end": func(l []api.Type) { l[4].Elem = 24 }, "huge Elem": func(l []api.Type) { l[4].Elem = math.MaxInt }, "Elem far below 0": func(l []api.Type) { l[4].Elem = math.MinInt },
		"a field without a name": func(l []api.Type) { l[0].Fields[1].Name = "" }, "a field that is a kept word": func(l []api.Type) { l[0].Fields[1].Name = "if" }, "another field's name": func(l []api.Type) { l[0].Fields[2].Name = "a" },
		"a field's type 0": func(l []api.Type) { l[0].Fields[1].Type = 0 }, "a field's type 6": func(l []api.Type) { l[0].Fields[1].Type = 6 }, "a field's type 15": func(l []api.Type) { l[0].Fields[1].Type = 15 }, "a field's type past the end": func(l []api.Type) { l[0].Fields[1].Type = 24 }, "a field's type below 0": func(l []api.Type) { l[0].Fields[1].Type = -1 }, "a field's huge type": func(l []api.Type) { l[0].Fields[1].Type = math.MaxInt }, "a field's type far below 0": func(l []api.Type) { l[0].Fields[1].Type = math.MinInt },
		"a record behind an array": func(l []api.Type) { l[2], l[3] = l[3], l[2] }, "an array ahead of its elements' type": func(l []api.Type) { l[4], l[5] = l[5], l[4] },
	} {
		l := sample()
		change(l)
		taken(t, what, l, api.ErrTree)
	}
	for what, change := range map[string]func(l []api.Type){
		"another name": func(l []api.Type) { l[1].Name = "PP" }, "no fields": func(l []api.Type) { l[0].Fields = nil }, "Len 1": func(l []api.Type) { l[4].Len = 1 }, "MaxArray": func(l []api.Type) { l[4].Len = api.MaxArray }, "a field's own record": func(l []api.Type) { l[0].Fields[0].Type = 16 }, "a field's last type": func(l []api.Type) { l[0].Fields[0].Type = 23 }, "Elem of a record": func(l []api.Type) { l[4].Elem = 18 }, "the last Elem ahead": func(l []api.Type) { l[7].Elem = 22 },
		"records changed about": func(l []api.Type) { l[0], l[1] = l[1], l[0] }, "arrays changed about": func(l []api.Type) { l[6], l[7] = l[7], l[6] },
	} {
		l := sample()
		change(l)
		taken(t, what, l, api.OK)
	}
	for i := range sample() {
		for typ := -1; typ <= 30; typ++ {
			l := sample()
			l[i].Elem = typ
			taken(t, fmt.Sprint("Elem ", typ, " of ", i), l, plainCheck(l))
		}
	}
}

func TestP6_5Limits(t *testing.T) {
	arrays := func(count int) []api.Type {
		return several(count, func(i int) api.Type { return fixed(i+1, 1) })
	}
	records := func(count int) []api.Type {
		return several(count, func(i int) api.Type { return record(fmt.Sprint("P", i)) })
	}
	taken(t, "MaxTypes", arrays(api.MaxTypes), api.OK)
	taken(t, "a type more", arrays(api.MaxTypes+1), api.ErrLimit)
	taken(t, "many types, all wrong", make([]api.Type, 100000), api.ErrLimit)
	taken(t, "MaxTypes, the last one wrong", append(arrays(api.MaxTypes-1), fixed(0, 1)), api.ErrTree)
	taken(t, "a type more, all wrong", make([]api.Type, api.MaxTypes+1), api.ErrLimit)
	taken(t, "MaxTypes, all wrong", make([]api.Type, api.MaxTypes), api.ErrTree)
	taken(t, "MaxRecords", records(api.MaxRecords), api.OK)
	taken(t, "a record more", records(api.MaxRecords+1), api.ErrTree)
	taken(t, "MaxRecords and arrays", append(records(api.MaxRecords), arrays(api.MaxTypes-api.MaxRecords)...), api.OK)
	taken(t, "a record more, and arrays", append(records(api.MaxRecords+1), arrays(api.MaxTypes-api.MaxRecords-1)...), api.ErrTree)
	chain := several(api.MaxTypes, func(i int) api.Type { return grow(max(api.I8, 15+i)) })
	chain[0].Elem = api.I8
	taken(t, "arrays in arrays", chain, api.OK)
	fields := func(count int) []api.Type {
		p := record("P")
		for i := range count {
			p.Fields = append(p.Fields, field(fmt.Sprint("f", i), 1))
		}
		return []api.Type{record("A"), p}
	}
	taken(t, "MaxFields", fields(api.MaxFields), api.OK)
	taken(t, "a field more", fields(api.MaxFields+1), api.ErrTree)
	if Check(fields(1<<20)) != api.ErrTree {
		t.Error("very many fields")
	}
	l := fields(api.MaxFields)
	l[1].Fields[31].Name = "f0"
	taken(t, "the last field as the first one", l, api.ErrTree)
}

// spoil changes one thing of a list of types, whether it may be then or not.
func (m *author) spoil(l []api.Type) []api.Type {
	numbers := []int{-1, 0, 1, 2, 5, 6, 15, 16, 17, 18, 15 + len(l), 16 + len(l), 65536, 65537}
	number := func() int { return numbers[m.Intn(len(numbers))] }
	name := func() string { return m.one("", "P", "Q", "a", "b", "i8", "while", "1a", "N") }
	if len(l) == 0 {
		return append(l, api.Type{Kind: uint8(m.Intn(10)), Elem: number()})
	}
	i, j := m.Intn(len(l)), m.Intn(len(l))
	t := &l[i]
	switch m.Intn(11) {
	case 0:
		t.Kind = uint8(m.Intn(10))
	case 1:
		t.Name = name()
	case 2:
		t.Elem = number()
	case 3:
		t.Len = number()
	case 4:
		t.Fields = append(t.Fields, field(name(), number()))
	case 5:
		l[i], l[j] = l[j], l[i]
	case 6:
		l = slices.Delete(l, i, i+1)
	case 7:
		l = append(l, l[i])
	case 8:
		l = slices.Insert(l, i, l[j])
	default:
		if len(t.Fields) == 0 {
			return m.spoil(l)
		}
		f := &t.Fields[m.Intn(len(t.Fields))]
		if m.Intn(2) == 0 {
			f.Name = name()
		} else {
			f.Type = number()
		}
	}
	return l
}

// Lists made at will, of which one thing, and then another, is changed, are as the second reading says.
func TestP6_5AtWill(t *testing.T) {
	m := newAuthor(65, 0)
	seen := map[api.Errno]int{}
	for range 2000 {
		k, _, wrong := Of(read(t, m.program()))
		if wrong != api.OK {
			t.Fatal(wrong)
		}
		l := k.Types()
		taken(t, "as it was made", l, api.OK)
		for range 6 {
			l = m.spoil(l)
			want := plainCheck(l)
			taken(t, "spoilt", l, want)
			seen[want]++
		}
	}
	if seen[api.OK] < 500 || seen[api.ErrTree] < 500 {
		t.Errorf("%v", seen)
	}
}

// Lists are neither changed, nor is what lies behind them.
func TestP6_5Unchanged(t *testing.T) {
	roomy := func() []api.Type {
		l := append(make([]api.Type, 0, 20), sample()...)
		for i := range l {
			l[i].Fields = append(make([]api.Field, 0, 9), l[i].Fields...)
			l[i].Fields[:9][8].Name = "behind"
		}
		l[:20][19].Name = "behind"
		return l
	}
	whole := func(l []api.Type) string {
		s := fmt.Sprint(l[:cap(l)])
		for _, t := range l {
			s += fmt.Sprint(t.Fields[:cap(t.Fields)])
		}
		return s
	}
	l, kept := roomy(), roomy()
	Check(l)
	for typ := range 40 {
		Get(l, typ)
		Name(l, typ)
	}
	if !reflect.DeepEqual(l, kept) || whole(l) != whole(kept) {
		t.Error("the list was changed")
	}
}
