package image

import (
	"testing"

	"trammel/api"
)

// changes are ways to make another module of the one that sample makes, in one thing each.
func changes() map[string]func(m *api.Module) {
	return map[string]func(m *api.Module){
		"a record's name":       func(m *api.Module) { m.Types[0].Name = "pear" },
		"a record without one":  func(m *api.Module) { m.Types[0].Name = "" },
		"a field's name":        func(m *api.Module) { m.Types[0].Fields[1].Name = "nexu" },
		"a field's type":        func(m *api.Module) { m.Types[0].Fields[0].Type = api.I8 },
		"fields in other order": func(m *api.Module) { f := m.Types[0].Fields; f[0], f[1] = f[1], f[0] },
		"a field less":          func(m *api.Module) { m.Types[0].Fields = m.Types[0].Fields[:1] },
		"a field more":          func(m *api.Module) { m.Types[0].Fields = append(m.Types[0].Fields, api.Field{Type: 1}) },
		"a Grow's Elem":         func(m *api.Module) { m.Types[1].Elem = 17 },
		"a Fixed's Elem":        func(m *api.Module) { m.Types[2].Elem = 5 },
		"a Len":                 func(m *api.Module) { m.Types[2].Len = 299 },
		"a Len of a Grow":       func(m *api.Module) { m.Types[1].Len = 1 },
		"a Name of a Grow":      func(m *api.Module) { m.Types[1].Name = "g" },
		"an Elem of a Record":   func(m *api.Module) { m.Types[3].Elem = 1 },
		"a Kind":                func(m *api.Module) { m.Types[1].Kind = api.Fixed },
		"a Kind that is none":   func(m *api.Module) { m.Types[3].Kind = 0 },
		"a type less":           func(m *api.Module) { m.Types = m.Types[:3] },
		"a type more":           func(m *api.Module) { m.Types = append(m.Types, m.Types[3]) },
		"no types":              func(m *api.Module) { m.Types = nil },
		"types in other order":  func(m *api.Module) { m.Types[2], m.Types[3] = m.Types[3], m.Types[2] },
		"a text":                func(m *api.Module) { m.Texts[0] = "hellp" },
		"a longer text":         func(m *api.Module) { m.Texts[1] = "\x00" },
		"a text less":           func(m *api.Module) { m.Texts = m.Texts[:1] },
		"a text more":           func(m *api.Module) { m.Texts = append(m.Texts, "") },
		"texts cut otherwise":   func(m *api.Module) { m.Texts = []string{"hell", "o"} },
		"texts in other order":  func(m *api.Module) { m.Texts = []string{"", "hello"} },
		"a function's name":     func(m *api.Module) { m.Funcs[0].Name = "mbin" },
		"a function with one":   func(m *api.Module) { m.Funcs[1].Name = "f" },
		"a param":               func(m *api.Module) { m.Funcs[0].Params[0] = api.I32 },
		"a param less":          func(m *api.Module) { m.Funcs[0].Params = m.Funcs[0].Params[:1] },
		"a param as a result":   func(m *api.Module) { m.Funcs[0].Params, m.Funcs[0].Results = []int{3}, []int{16, 5} },
		"a result":              func(m *api.Module) { m.Funcs[2].Results[1] = api.I8 },
		"a result more":         func(m *api.Module) { m.Funcs[1].Results = []int{1} },
		"locals":                func(m *api.Module) { m.Funcs[0].Locals = 4 },
		"stack":                 func(m *api.Module) { m.Funcs[0].Stack = 4095 },
		"a stack below 0":       func(m *api.Module) { m.Funcs[0].Stack = -1 },
		"a byte of the code":    func(m *api.Module) { m.Funcs[0].Code[1] = 0 },
		"a byte more":           func(m *api.Module) { m.Funcs[0].Code = append(m.Funcs[0].Code, 4) },
		"no code":               func(m *api.Module) { m.Funcs[2].Code = nil },
		"a function less":       func(m *api.Module) { m.Funcs = m.Funcs[:2] },
		"a function more":       func(m *api.Module) { m.Funcs = append(m.Funcs, api.Routine{}) },
		"functions turned":      func(m *api.Module) { m.Funcs[0], m.Funcs[2] = m.Funcs[2], m.Funcs[0] },
		"nothing":               func(m *api.Module) { *m = api.Module{} },
	}
}

// Each two of the changed modules, and the one that is not.
func TestP13_3Same(t *testing.T) {
	list := map[string]api.Module{"unchanged": sample()}
	for name, change := range changes() {
		m := sample()
		change(&m)
		list[name] = m
	}
	for x, a := range list {
		for y, b := range list {
			if Same(a, b) != (x == y) {
				t.Errorf("Same(%s, %s) = %v", x, y, x != y)
			}
		}
	}
	for name, change := range changes() {
		a, b := sample(), sample()
		change(&a)
		change(&b)
		if !Same(a, b) {
			t.Errorf("Same(%s, the same made again) = false", name)
		}
	}
}

func TestP13_3NilAndEmpty(t *testing.T) {
	none := api.Module{}
	empty := api.Module{Types: []api.Type{}, Texts: []string{}, Funcs: make([]api.Routine, 0, 5)}
	within := func(fields []api.Field, list []int, code []byte) api.Module {
		return api.Module{Types: []api.Type{{Kind: api.Record, Fields: fields}}, Texts: []string{""}, Funcs: []api.Routine{{Params: list, Results: list, Code: code}}}
	}
	a, b := within(nil, nil, nil), within([]api.Field{}, []int{}, []byte{})
	c := within(make([]api.Field, 1)[:0], []int{7, 8}[:0], []byte{1, 2}[:0])
	for _, x := range [][2]api.Module{{none, empty}, {empty, none}, {empty, empty}, {a, b}, {b, a}, {b, c}, {c, a}} {
		if !Same(x[0], x[1]) {
			t.Errorf("Same(%#v, %#v) = false", x[0], x[1])
		}
	}
	if Same(none, a) || Same(a, none) || Same(none, api.Module{Texts: []string{""}}) || Same(none, api.Module{Types: make([]api.Type, 1)}) || Same(empty, api.Module{Funcs: make([]api.Routine, 1)}) {
		t.Error("a list of one is the same as an empty one")
	}
}

// What lies behind a list's length does not count.
func TestP13_3Behind(t *testing.T) {
	a, b := sample(), sample()
	a.Texts = append(a.Texts, "more")[:2]
	b.Texts = append(b.Texts, "other")[:2]
	a.Funcs[0].Code = append(a.Funcs[0].Code, 1)[:4]
	b.Funcs[0].Code = append(b.Funcs[0].Code, 2)[:4]
	if !Same(a, b) {
		t.Error("Same = false")
	}
}
