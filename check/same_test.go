package check

import (
	"slices"
	"testing"

	"trammel/api"
)

// same holds Same to what is wanted, either way round.
func same(t *testing.T, name string, a, b api.Program, want bool) {
	t.Helper()
	if Same(a, b) != want || Same(b, a) != want {
		t.Errorf("%s: not %v", name, want)
	}
}

func TestP8_3OneThing(t *testing.T) {
	source := head + "var x, y = two(); switch n { case 1, 2: return one(); } push(b, len(t + \"ab\")); return 0; }"
	p := made(t, source)
	same(t, "it itself", p, p, true)
	same(t, "a copy", p, copied(p), true)
	same(t, "nothing", api.Program{}, api.Program{}, true)
	same(t, "nothing and something", api.Program{}, p, false)
	same(t, "empty lists", api.Program{}, api.Program{Types: []api.Type{}, Funcs: []api.Func{}}, true)
	for name, change := range map[string]func(p *api.Program, f *api.Func){
		"a type less":            func(p *api.Program, f *api.Func) { p.Types = p.Types[:3] },
		"a type more":            func(p *api.Program, f *api.Func) { p.Types = append(p.Types, api.Type{}) },
		"types in another order": func(p *api.Program, f *api.Func) { p.Types[2], p.Types[3] = p.Types[3], p.Types[2] },
		"a type's kind":          func(p *api.Program, f *api.Func) { p.Types[2].Kind = 7 },
		"a type's name":          func(p *api.Program, f *api.Func) { p.Types[1].Name = "F" },
		"a type's elements":      func(p *api.Program, f *api.Func) { p.Types[2].Elem = 4 },
		"a type's length":        func(p *api.Program, f *api.Func) { p.Types[3].Len = 4 },
		"a field less":           func(p *api.Program, f *api.Func) { p.Types[0].Fields = p.Types[0].Fields[:1] },
		"a field more":           func(p *api.Program, f *api.Func) { p.Types[1].Fields = []api.Field{{}} },
		"a field's name":         func(p *api.Program, f *api.Func) { p.Types[0].Fields[1].Name = "r" },
		"a field's type":         func(p *api.Program, f *api.Func) { p.Types[0].Fields[0].Type = 2 },
		"a function less":        func(p *api.Program, f *api.Func) { p.Funcs = p.Funcs[:4] },
		"a function more":        func(p *api.Program, f *api.Func) { p.Funcs = append(p.Funcs, api.Func{}) },
		"another order":          func(p *api.Program, f *api.Func) { p.Funcs[0], p.Funcs[1] = p.Funcs[1], p.Funcs[0] },
		"a name":                 func(p *api.Program, f *api.Func) { f.Name = "F" },
		"a parameter less":       func(p *api.Program, f *api.Func) { f.Params = f.Params[:7] },
		"a parameter":            func(p *api.Program, f *api.Func) { f.Params[7] = 3 },
		"a result":               func(p *api.Program, f *api.Func) { f.Results[0] = 1 },
		"a result more":          func(p *api.Program, f *api.Func) { f.Results = append(f.Results, 1) },
		"a slot":                 func(p *api.Program, f *api.Func) { f.Slots[9] = 1 },
		"a slot more":            func(p *api.Program, f *api.Func) { f.Slots = append(f.Slots, 1) },
		"no body":                func(p *api.Program, f *api.Func) { f.Body = api.Term{} },
		"another body":           func(p *api.Program, f *api.Func) { f.Body = p.Funcs[0].Body },
	} {
		other := copied(p)
		change(&other, &other.Funcs[4])
		same(t, name, p, other, false)
	}
	// each thing of each term
	terms := plainCount(p.Funcs[4].Body, 1000)
	for i := range terms {
		for name, change := range map[string]func(k *api.Term){
			"kind": func(k *api.Term) { k.Op++ }, "type": func(k *api.Term) { k.Type++ }, "number": func(k *api.Term) { k.N-- }, "high number": func(k *api.Term) { k.N ^= 1 << 62 }, "text": func(k *api.Term) { k.Text += "x" },
			"a Kid more": func(k *api.Term) { k.Kids = append(k.Kids, api.Term{}) }, "a Kid less": func(k *api.Term) {
				if len(k.Kids) == 0 {
					k.Op = 99
					return
				}
				k.Kids = k.Kids[:len(k.Kids)-1]
			},
		} {
			other := copied(p)
			left := i
			eachTerm(&other.Funcs[4].Body, func(k *api.Term) {
				if left == 0 {
					change(k)
				}
				left--
			})
			same(t, name, p, other, false)
		}
	}
}

// Nodes alone do not count; nor does it, whether a list is empty or none.
func TestP8_3Nodes(t *testing.T) {
	m := newAuthor(830, 0)
	for range 200 {
		p := made(t, m.program())
		other := copied(p)
		for i := range other.Funcs {
			other.Funcs[i].Nodes = m.int()
		}
		same(t, "other Nodes", p, other, true)
		emptied(&other)
		same(t, "empty lists", p, other, true)
		told := tellProgram(other)
		m.spoil(&other)
		for i := range other.Funcs {
			other.Funcs[i].Nodes = 0
		}
		zero := copied(p)
		for i := range zero.Funcs {
			zero.Funcs[i].Nodes = 0
		}
		same(t, told, p, other, tellProgram(zero) == tellProgram(other))
	}
	// one and the same part twice, or two that are alike
	same(t, "an if without an else", made(t, "fn f() { if true { } }"), made(t, "fn f() { if true { } else { } }"), true)
	same(t, "a for", made(t, "fn f() { for ; ; { } }"), made(t, "fn f() { { while true { } } }"), true)
	same(t, "names of locals", made(t, "fn f(a i8) { var b = a; b = 2i8; }"), made(t, "fn f(x i8) { var y = x; y = 2i8; }"), true)
	same(t, "a label", made(t, "fn f() { L: while true { break L; } }"), made(t, "fn f() { while true { break; } }"), true)
}

// bodyOf tells a program whose one function has that body.
func bodyOf(body api.Term) api.Program {
	return api.Program{Funcs: []api.Func{{Name: "f", Body: body}}}
}

// Programs of terms that are very deep, very wide, hold one part very often, or hold themselves: the answer comes, and comes soon.
func TestP8_3AnyTerms(t *testing.T) {
	a, b := api.Term{Op: 40, N: 1}, api.Term{Op: 40, N: 2}
	with := func(kids ...api.Term) api.Term { return api.Term{Op: 1, Kids: kids} }
	hold := func(name string, x, y api.Term, want bool) { t.Helper(); same(t, name, bodyOf(x), bodyOf(y), want) }
	deep := func(k api.Term) api.Term {
		for range 1 << 18 {
			k = with(k)
		}
		return k
	}
	hold("deep", deep(a), deep(a), true)
	hold("deep", deep(a), deep(b), false)
	hold("deeper", deep(a), with(deep(a)), false)
	wide := func(last api.Term) api.Term { return with(append(make([]api.Term, 1<<18), last)...) }
	hold("wide", wide(a), wide(a), true)
	hold("wide", wide(a), wide(b), false)
	often := func(k api.Term) api.Term {
		for range 60 {
			k = with(k, k, k)
		}
		return k
	}
	hold("often", often(a), often(a), true)
	hold("often", often(a), often(b), false)
	hold("order", with(a, b), with(b, a), false)
	hold("where", with(with(a), with()), with(with(), with(a)), false)
	round := func(terms int, last api.Term) api.Term {
		ring := make([][]api.Term, terms)
		for i := range ring {
			ring[i] = []api.Term{a, with()}
		}
		for i := range ring {
			ring[i][1].Kids = ring[(i+1)%terms]
		}
		ring[terms-1][0] = last
		return with(ring[0]...)
	}
	hold("round", round(1, a), round(1, a), true)
	hold("round", round(2, a), round(3, a), true)
	hold("round", round(2, a), round(3, b), false)
	hold("round", round(6, b), round(4, b), false)
	hold("round and not", round(5, a), with(a, a), false)
	// lists that begin in the same memory, but are not of one length
	long, other := []api.Term{a, b}, []api.Term{a, a}
	hold("cut", with(with(long[:1]...), with(long...)), with(with(other[:1]...), with(other...)), false)
	hold("cut", with(with(long[:1]...), with(other...)), with(with(other[:1]...), with(slices.Clone(other)...)), true)
}
