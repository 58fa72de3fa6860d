package lower

import (
	"math"
	"testing"

	"trammel/api"
	"trammel/flow"
)

// blocks tells so many empty blocks.
func blocks(count int) []api.Term {
	list := make([]api.Term, count)
	for i := range list {
		list[i] = term(api.SBlock)
	}
	return list
}

// round tells a block that holds itself.
func round() api.Term {
	x := term(api.SBlock, term(api.SBlock))
	x.Kids[0].Kids = x.Kids
	return x
}

// Programs that are refused, by each error; with several the first one that Texts names.
func TestP16_1Errors(t *testing.T) {
	open := made(t, "fn f() i8 { }").Funcs[0]
	closed := made(t, "fn g() i8 { return 1i8; }").Funcs[0]
	body := func(list ...api.Term) api.Func { return api.Func{Name: "h", Body: term(api.SBlock, list...)} }
	long := body(blocks(api.MaxNodes)...)
	wrongEnd := open
	wrongEnd.Slots = []int{99}
	for _, s := range []struct {
		name  string
		funcs []api.Func
		want  api.Errno
	}{
		{"one that comes to its end", []api.Func{open}, api.ErrEnd},
		{"behind another one", []api.Func{closed, open}, api.ErrEnd},
		{"a function of nothing", []api.Func{{}}, api.ErrTree},
		{"no block", []api.Func{{Name: "f", Body: term(api.SReturn)}}, api.ErrTree},
		{"a name twice", []api.Func{closed, closed}, api.ErrTree},
		{"a text in what has none", []api.Func{body(api.Term{Op: api.SReturn, Text: "a"})}, api.ErrTree},
		{"a break of nothing", []api.Func{body(numbered(api.SBreak, 0))}, api.ErrTree},
		{"a next of a switch", []api.Func{body(numbered(api.SSwitch, 0, whole(api.I8, 1), term(api.SBlock, numbered(api.SNext, 0))))}, api.ErrTree},
		{"a turn's number", []api.Func{body(numbered(api.SLoop, 1, valued(api.XTrue, api.Bool), term(api.SBlock), term(api.SBlock)))}, api.ErrTree},
		{"a trap's number", []api.Func{body(numbered(api.STrap, 256))}, api.ErrTree},
		{"a slot that is none", []api.Func{body(numbered(api.SPut, 0, whole(api.I8, 1)))}, api.ErrTree},
		{"a call of nothing", []api.Func{body(term(api.SDo, numbered(api.XCall, 1)))}, api.ErrTree},
		{"a number beyond its type", []api.Func{body(numbered(api.SSwitch, 0, whole(api.I8, 128), term(api.SBlock)))}, api.ErrTree},
		{"kids that are missing", []api.Func{body(term(api.SIf), numbered(api.SLoop, 0), numbered(api.SSwitch, 1))}, api.ErrTree},
		{"an end, and what may not be", []api.Func{open, body(term(api.SIf))}, api.ErrTree},
		{"an end in what may not be", []api.Func{wrongEnd}, api.ErrTree},
		{"too many terms", []api.Func{long}, api.ErrLimit},
		{"terms that hold themselves", []api.Func{body(round())}, api.ErrLimit},
		{"too many terms, an end, and what may not be", []api.Func{open, {}, long}, api.ErrLimit},
	} {
		p := api.Program{Funcs: s.funcs}
		refusesAll(t, s.name, p, s.want)
		if _, wrong := flow.Check(p); wrong != s.want {
			t.Errorf("%s: flow.Check: %d", s.name, wrong)
		}
	}
	refusesAll(t, "types", api.Program{Types: []api.Type{{}}, Funcs: []api.Func{closed}}, api.ErrTree)
	refusesAll(t, "types, and an end", api.Program{Types: []api.Type{{}}, Funcs: []api.Func{open}}, api.ErrTree)
}

func TestP16_2Places(t *testing.T) {
	three := made(t, "fn f() { } fn g() i8 { return 1i8; } fn h() { trap 3; }")
	for i, want := range []string{"return", "i8 1; return; trap 0", "trap 3; return"} {
		if l, wrong := Func(three, i); wrong != api.OK || written(t, l) != want {
			t.Errorf("%d: %s, %d", i, written(t, l), wrong)
		}
	}
	ends := made(t, "fn f() { } fn g() i8 { }")
	for _, i := range []int{-1, 3, 4, math.MinInt, math.MaxInt, math.MinInt + 1, 1 << 32, -1 << 32, 1<<32 + 1} {
		refuses(t, "no place", three, i, api.ErrFunc)
		refuses(t, "an end, and no place", ends, i, api.ErrEnd)
		refuses(t, "what may not be, and no place", api.Program{Funcs: []api.Func{{}}}, i, api.ErrTree)
		refuses(t, "no functions", api.Program{}, i, api.ErrFunc)
	}
	refuses(t, "no functions", api.Program{Types: []api.Type{}, Funcs: []api.Func{}}, 0, api.ErrFunc)
	var all api.Program
	for i := range api.MaxFuncs {
		all.Funcs = append(all.Funcs, api.Func{Name: "f" + string(rune('a'+i/16)) + string(rune('a'+i%16)), Body: term(api.SBlock, numbered(api.STrap, int64(i)))})
	}
	asPlain(t, all)
	refuses(t, "one past all", all, api.MaxFuncs, api.ErrFunc)
}

// What stands at a function's end hangs on its results alone.
func TestP16_2Ends(t *testing.T) {
	for source, want := range map[string]string{
		"fn f() { return; }":                            "return; return",
		"fn f() { while true { } }":                     "L0:; jump L0; return",
		"fn f() i8 { trap 7; }":                         "trap 7; trap 0",
		"fn f() i8 { while true { } }":                  "L0:; jump L0; trap 0",
		"fn f() (i8, bool) { return 1i8, true; }":       "i8 1; true; return; trap 0",
		"fn f(a i8) (i8, i8, i8) { return a, -a, ~a; }": "get 0; get 0; neg 1; get 0; not 1; return; trap 0",
	} {
		lowers(t, source, want)
	}
}
