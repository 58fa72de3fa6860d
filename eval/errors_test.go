package eval

import (
	"math"
	"slices"
	"testing"

	"trammel/api"
)

// refuses holds Run and Heap to an error.
func refuses(t *testing.T, name string, p api.Program, f int, args []int64, rules int64, want api.Errno) {
	t.Helper()
	a, wrong := Run(p, f, args, rules)
	words, heapWrong := Heap(p, f, args, rules)
	if wrong != want || heapWrong != want || words != 0 || a.Trap != 0 || a.Steps != 0 || len(a.Values) > 0 {
		t.Errorf("%s: %v, %d; %d, %d; want %d", name, a, wrong, words, heapWrong, want)
	}
	if _, _, wrong := plain(p, f, args, rules); wrong != want {
		t.Errorf("%s: the second reading %d, want %d", name, wrong, want)
	}
}

// Each error, and of several that apply the one that is named first.
func TestP11_1Errors(t *testing.T) {
	open := made(t, "fn f(a i8, s bytes) i8 { }")
	closed := made(t, "fn f(a i8, s bytes) i8 { return a; } fn g(a i8) i8 { return a; }")
	never := api.Program{Funcs: []api.Func{{}}}
	full := api.Program{Funcs: []api.Func{{Name: "f", Body: api.Term{Op: api.SBlock, Kids: make([]api.Term, api.MaxNodes)}}}}
	behind := made(t, "fn f() { } fn g() i8 { }")
	for _, s := range []struct {
		name  string
		p     api.Program
		f     int
		args  []int64
		rules int64
		want  api.Errno
	}{
		{"a program that may not be", never, 0, nil, plenty, api.ErrTree},
		{"it, and all else", never, 7, []int64{1}, -1, api.ErrTree},
		{"too many terms", full, 0, nil, plenty, api.ErrLimit},
		{"they, and all else", full, 7, []int64{1}, -1, api.ErrLimit},
		{"an end", open, 0, []int64{1, 1}, plenty, api.ErrEnd},
		{"it, and no function", open, 7, []int64{1, 1}, -1, api.ErrEnd},
		{"it, and too few args", open, 0, nil, -1, api.ErrEnd},
		{"an end in another function", behind, 0, nil, plenty, api.ErrEnd},
		{"no function", closed, 2, []int64{1}, plenty, api.ErrFunc},
		{"no function, below", closed, -1, []int64{1}, plenty, api.ErrFunc},
		{"no function, far below", closed, math.MinInt, []int64{1}, plenty, api.ErrFunc},
		{"no function, far above", closed, math.MaxInt, []int64{1}, plenty, api.ErrFunc},
		{"no function, and no rules", closed, 2, nil, -1, api.ErrFunc},
		{"no functions", api.Program{}, 0, nil, plenty, api.ErrFunc},
		{"too few args", closed, 0, []int64{1}, plenty, api.ErrCount},
		{"no args", closed, 1, nil, plenty, api.ErrCount},
		{"too many args", closed, 1, []int64{1, 1}, plenty, api.ErrCount},
		{"too few args, and a text", closed, 0, []int64{300}, -1, api.ErrCount},
		{"a text", closed, 0, []int64{1, 1}, plenty, api.ErrKind},
		{"a text, and an arg ahead that does not fit", closed, 0, []int64{300, 1}, -1, api.ErrKind},
		{"an arg that does not fit", closed, 1, []int64{300}, plenty, api.ErrFits},
		{"it, and no rules", closed, 1, []int64{300}, -1, api.ErrFits},
		{"rules below 0", closed, 1, []int64{1}, -1, api.ErrFuel},
		{"rules far below 0", closed, 1, []int64{1}, math.MinInt64, api.ErrFuel},
		{"no rules", closed, 1, []int64{1}, 0, api.ErrFuel},
		{"too few rules", closed, 1, []int64{1}, 2, api.ErrFuel},
		{"as many rules", closed, 1, []int64{1}, 3, api.OK},
		{"more rules", closed, 1, []int64{1}, 4, api.OK},
		{"as many rules as can be", closed, 1, []int64{1}, math.MaxInt64, api.OK},
	} {
		if s.want != api.OK {
			refuses(t, s.name, s.p, s.f, s.args, s.rules, s.want)
			continue
		}
		told(t, s.p, s.f, s.args, s.rules, values(3, i8(1)), 0, api.OK)
	}
}

// Args at the ends of each width, and one beyond; bools.
func TestP11_1Fits(t *testing.T) {
	p := made(t, "fn f(a i8) i8 { return a; } fn g(a i32) i32 { return a; } fn h(a i64) i64 { return a; } fn k(a bool) bool { return a; }")
	ok := [][]int64{
		{-128, 127, 0, -1, 1}, {math.MinInt32, math.MaxInt32, 0, -1, 128, -129}, {math.MinInt64, math.MaxInt64, 0, -1, 1 << 31, -1<<31 - 1}, {0, 1},
	}
	wrong := [][]int64{
		{-129, 128, 255, 256, math.MinInt64, math.MaxInt64, 1 << 32}, {math.MinInt32 - 1, math.MaxInt32 + 1, 1 << 32, math.MinInt64, math.MaxInt64}, nil, {2, -1, 256, math.MinInt64, math.MaxInt64},
	}
	for f := range p.Funcs {
		for _, n := range ok[f] {
			told(t, p, f, []int64{n}, plenty, values(3, api.Value{Kind: uint8(f + 1), N: n}), 0, api.OK)
		}
		for _, n := range wrong[f] {
			refuses(t, "beyond", p, f, []int64{n}, plenty, api.ErrFits)
		}
	}
	p = made(t, "fn f(a i64, b i8, c bool) { }")
	refuses(t, "the second one", p, 0, []int64{300, 300, 1}, plenty, api.ErrFits)
	refuses(t, "the third one", p, 0, []int64{300, 30, 2}, plenty, api.ErrFits)
	told(t, p, 0, []int64{300, 30, 0}, plenty, values(1), 0, api.OK)
}

// Parameters of each type that is neither an int nor a bool: also those whose number, cut to a byte, would be one of these.
func TestP11_1Kinds(t *testing.T) {
	p := made(t, "record P { } record Q { a i8; } fn f(a bytes) { } fn g(a P) { } fn h(a Q) { } fn i(a [2]i8) { } fn j(a []i64) { } fn k(o bool, a []bool) { }")
	for f := range 5 {
		refuses(t, p.Funcs[f].Name, p, f, []int64{0}, plenty, api.ErrKind)
		refuses(t, p.Funcs[f].Name, p, f, nil, plenty, api.ErrCount)
	}
	refuses(t, "k", p, 5, []int64{1, 1}, plenty, api.ErrKind)
	refuses(t, "k", p, 5, []int64{2, 1}, plenty, api.ErrKind)

	var many api.Program
	for i := range api.MaxTypes {
		many.Types = append(many.Types, api.Type{Kind: api.Fixed, Elem: api.I8, Len: i + 1})
	}
	for i := range 16 {
		typ := 256 + i - 1
		name := string(rune('a' + i))
		many.Funcs = append(many.Funcs, api.Func{Name: name, Params: []int{typ}, Slots: []int{typ}, Body: api.Term{Op: api.SBlock}})
	}
	for f := range many.Funcs {
		refuses(t, "a type of a great number", many, f, []int64{0}, plenty, api.ErrKind)
	}
}

// What is handed in is not changed, and what is answered is new each time.
func TestP11_1Kept(t *testing.T) {
	for seed := range int64(40) {
		m := newAuthor(seed)
		p := made(t, m.program())
		args := append(m.args(p.Funcs[0].Params), 77)[:len(p.Funcs[0].Params)]
		keeps(t, p, args, func() {
			first, wrong := Run(p, 0, args, 2000)
			kept := slices.Clone(first.Values)
			second, again := Run(p, 0, args, 2000)
			clear(second.Values)
			if wrong != again || !slices.Equal(first.Values, kept) {
				t.Fatalf("%v, %d; %d", first, wrong, again)
			}
			Heap(p, 0, args, 2000)
		})
	}
}
