package kinds

import (
	"fmt"
	"testing"

	"trammel/api"
	"trammel/parse"
)

// follows holds a program that has a table to what the chapter says of all of them.
func follows(t *testing.T, s string, n api.Node) {
	t.Helper()
	k, _, wrong := Of(n)
	if wrong != api.OK {
		return
	}
	l := k.Types()
	if wrong := Check(l); wrong != api.OK {
		t.Errorf("%.300q: Check: %d of %s", s, wrong, cut(l))
	}
	for typ := range api.FirstType + len(l) {
		name := Name(l, typ)
		if (typ >= 1 && typ <= 5 || typ >= 16) != (name != "") {
			t.Errorf("%.300q: Name(%d): %q", s, typ, name)
		}
		if name == "" {
			continue
		}
		tree, _, wrong := parse.Type(name)
		if wrong == api.ErrNest {
			continue // a type that is deeper than a source could be
		}
		if wrong != api.OK || k.Find(tree) != typ {
			t.Errorf("%.300q: Name(%d) is %q, which is found as %d", s, typ, name, k.Find(tree))
		}
	}
	again, _, _ := Of(n)
	if plainly(again.Types()) != plainly(l) {
		t.Errorf("%.300q: another table at the second time", s)
	}
}

func TestP6_7AtWill(t *testing.T) {
	for i, slips := range []int{0, 30} {
		m := newAuthor(int64(70+i), slips)
		for range 1000 {
			s := m.program()
			follows(t, s, read(t, s))
		}
	}
	follows(t, "a deep type", withType(deep(api.MaxTypes, typeTree(t, "i8"))))
}

// A function more, of types that are there, leaves the table as it is, wherever it stands.
func TestP6_7FunctionMore(t *testing.T) {
	m := newAuthor(72, 0)
	for range 500 {
		s := m.program()
		n := read(t, s)
		k, _, wrong := Of(n)
		if wrong != api.OK {
			t.Fatal(s, wrong)
		}
		l := k.Types()
		var names []string
		for typ := range api.FirstType + len(l) {
			if name := Name(l, typ); name != "" {
				names = append(names, name)
			}
		}
		more := read(t, fmt.Sprintf("fn g(a %s, b %s) (%s, %s) { x = new %s(new %s()); }",
			m.one(names...), m.one(names...), m.one(names...), m.one(names...), m.one(names...), m.one(names...)))
		n.Kids = append(n.Kids, more.Kids...)
		holds(t, s+" and a function", n, l...)
	}
	// ahead of all others it changes no record's number; and with a type that is none yet there is one more
	s := "record P { a [2]Q; } record Q { b []P; }"
	k, _, _ := Of(read(t, s))
	holds(t, "ahead", read(t, "fn g(a P, b Q, c bytes) {} "+s), k.Types()...)
	holds(t, "a new type", read(t, s+"fn g(a [2]P) {}"), append(k.Types(), fixed(2, 16))...)
}

// Each list that Check takes is the table of a program: of one with the arrays, in their order, ahead of the records.
func TestP6_7EachListIsATable(t *testing.T) {
	m := newAuthor(73, 0)
	count := 0
	for range 1000 {
		k, _, _ := Of(read(t, m.program()))
		l := k.Types()
		for range 3 {
			l = m.spoil(l)
			if Check(l) == api.OK {
				s := source(l)
				holds(t, s, read(t, s), l...)
				count++
			}
		}
	}
	if count < 200 {
		t.Errorf("met %d times", count)
	}
	s := source(sample())
	holds(t, s, read(t, s), sample()...)
}

// source writes a program with these types.
func source(l []api.Type) string {
	params, records := "", ""
	for i, t := range l {
		if t.Kind != api.Record {
			params += ", a " + Name(l, 16+i)
			continue
		}
		records += " record " + t.Name + " {"
		for _, f := range t.Fields {
			records += " " + f.Name + " " + Name(l, f.Type) + ";"
		}
		records += " }"
	}
	return "fn f(z i8" + params + ") {}" + records
}

func FuzzOf(f *testing.F) {
	for _, s := range []string{
		"", "record P { a Q; } record Q { b []P; c [3]i8; }", "fn f(a [][]i8) { x = new []i8(); }", "record P {} record P {}",
		"record P { a i8; a Q; }", "fn f(a [70000]R) [0]i8 {}", "fn f() { for i = new [1]P(); new T(); { push(new []i8(), 1); } }",
	} {
		f.Add(s)
	}
	m := newAuthor(74, 20)
	for range 20 {
		f.Add(m.program())
	}
	f.Fuzz(func(t *testing.T, s string) {
		n, _, wrong := parse.Source(s)
		if wrong != api.OK {
			return
		}
		asPlain(t, s, n)
		follows(t, s, n)
	})
}
