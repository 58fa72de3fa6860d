package check

import (
	"fmt"
	"testing"

	"trammel/api"
	"trammel/parse"
)

// asPlain holds what Program tells of a tree to the second reading, and tells what it was.
func asPlain(t *testing.T, s string, n api.Node) (api.Program, api.Errno) {
	t.Helper()
	p, place, wrong := Program(n)
	want, wantPlace, wantWrong := plainProgram(n)
	if place != wantPlace || wrong != wantWrong {
		t.Fatalf("%s\n%d at %d, want %d at %d", s, wrong, place, wantWrong, wantPlace)
	}
	if tellProgram(p) != tellProgram(want) {
		t.Fatalf("%s\n%s\nwant\n%s", s, tellProgram(p), tellProgram(want))
	}
	return p, wrong
}

// Sources made at will, right ones and such with slips, are what the second reading says.
func TestP8_1AtWill(t *testing.T) {
	met := map[api.Errno]int{}
	for i, slips := range []int{0, 50, 200, 600} {
		m := newAuthor(int64(810+i), slips)
		for range 1000 {
			s := m.program()
			_, wrong := asPlain(t, s, read(t, s))
			met[wrong]++
			if slips == 0 && wrong != api.OK {
				t.Fatalf("%s\nrefused: %d", s, wrong)
			}
		}
	}
	for _, wrong := range []api.Errno{api.OK, api.ErrTwice, api.ErrName, api.ErrLabel, api.ErrOperand, api.ErrTarget, api.ErrArgs, api.ErrCase} {
		if met[wrong] < 5 {
			t.Errorf("%d: met %d times", wrong, met[wrong])
		}
	}
}

// Trees made by hand: a place is what a node's At tells, wherever that would be in a source.
func TestP8_1AnyPlaces(t *testing.T) {
	m := newAuthor(815, 100)
	refusals := 0
	for range 500 {
		s := m.program()
		n := read(t, s)
		var nodes []*api.Node
		eachNode(&n, func(k *api.Node) { nodes = append(nodes, k) })
		for i, at := range m.Perm(len(nodes)) {
			nodes[i].At = at - 5
		}
		if _, wrong := asPlain(t, s, n); wrong != api.OK {
			refusals++
		}
	}
	if refusals < 100 {
		t.Errorf("%d were refused", refusals)
	}
}

func node(kind uint8, kids ...api.Node) api.Node { return api.Node{Kind: kind, Kids: kids} }

func named(kind uint8, text string, kids ...api.Node) api.Node {
	return api.Node{Kind: kind, Text: text, Kids: kids}
}

// function tells the tree of a program of one function, without parameters and results, of these statements.
func function(stmts ...api.Node) api.Node {
	return node(api.NProgram, named(api.NFunc, "f", node(api.NParams), node(api.NTypes), node(api.NBlock, stmts...)))
}

// What is no tree of a program is refused as kinds.Of does.
func TestP8_1NoPrograms(t *testing.T) {
	one := api.Node{Kind: api.XInt, At: 7, N: 1}
	trap := func(n uint64) api.Node { return api.Node{Kind: api.NTrap, At: 9, N: n} }
	for name, n := range map[string]api.Node{
		"nothing": {}, "a block": node(api.NBlock), "a number": one, "a type": named(api.NNamed, "i8"), "a function alone": function().Kids[0], "no kind": node(99),
		"a function without a block":  node(api.NProgram, named(api.NFunc, "f", node(api.NParams), node(api.NTypes))),
		"a function without a name":   node(api.NProgram, named(api.NFunc, "", node(api.NParams), node(api.NTypes), node(api.NBlock))),
		"a statement in a program":    node(api.NProgram, node(api.NReturn)),
		"a value as a statement":      function(one),
		"a push as a value":           function(node(api.NVar, named(api.NWord, "x"), node(api.XPush, one, one))),
		"a call of a number":          function(node(api.NDo, one)),
		"a trap above 255":            function(trap(256)),
		"a name that is kept":         function(node(api.NVar, named(api.NWord, "while"), one)),
		"a var without a value":       function(node(api.NVar, named(api.NWord, "x"))),
		"a var without a name":        function(node(api.NVar, one)),
		"a target that is a number":   function(node(api.NSet, one, one)),
		"a number beyond its suffix":  function(node(api.NVar, named(api.NWord, "x"), api.Node{Kind: api.XInt, Text: "i8", N: 256})),
		"a suffix of no type":         function(node(api.NVar, named(api.NWord, "x"), api.Node{Kind: api.XInt, Text: "i9"})),
		"a case without a number":     function(node(api.NSwitch, one, node(api.NCase, node(api.NBlock)))),
		"a case of a text":            function(node(api.NSwitch, one, node(api.NCase, named(api.XText, "a"), node(api.NBlock)))),
		"a default ahead of a case":   function(node(api.NSwitch, one, node(api.NDefault, node(api.NBlock)), node(api.NCase, one, node(api.NBlock)))),
		"a for of three parts":        function(node(api.NFor, node(api.NNone), node(api.NNone), node(api.NBlock))),
		"a for with a var at its end": function(node(api.NFor, node(api.NNone), node(api.NNone), node(api.NVar, named(api.NWord, "x"), one), node(api.NBlock))),
	} {
		if parse.Check(n) == api.OK && n.Kind == api.NProgram {
			t.Errorf("%s: a tree", name)
		}
		refusedAt(t, name, n, 0, api.ErrTree)
	}
	made, place, wrong := Program(function(trap(255)))
	if wrong != api.OK || place != 0 || tell(made.Funcs[0].Body) != "SBlock(STrap#255)" {
		t.Errorf("a trap: %d at %d", wrong, place)
	}
	ring := make([]api.Node, 1)
	ring[0] = node(api.NBlock, ring...)
	ring[0].Kids = ring
	refusedAt(t, "a block that holds itself", function(ring...), 0, api.ErrLimit)
	refusedAt(t, "too many nodes", function(make([]api.Node, api.MaxNodes-4)...), 0, api.ErrLimit)
}

// Trees as deep as they may be, deeper than any source.
func TestP8_1Deep(t *testing.T) {
	const deep = api.MaxNodes - 20
	o := node(api.XTrue)
	for name, form := range map[string]struct {
		wrap func(api.Node) api.Node
		in   api.Node
		per  int // nodes that a wrap has
	}{
		"flips":  {func(n api.Node) api.Node { return node(api.XFlip, n) }, o, 1},
		"ands":   {func(n api.Node) api.Node { return node(api.XBoth, o, n) }, o, 2},
		"blocks": {func(n api.Node) api.Node { return node(api.NBlock, n) }, node(api.NReturn), 1},
		"ifs":    {func(n api.Node) api.Node { return node(api.NIf, o, node(api.NBlock, n)) }, node(api.NReturn), 3},
		"elses":  {func(n api.Node) api.Node { return node(api.NIf, o, node(api.NBlock), n) }, node(api.NIf, o, node(api.NBlock)), 3},
		"loops":  {func(n api.Node) api.Node { return node(api.NWhile, o, node(api.NBlock, n)) }, node(api.NContinue), 3},
		"fors": {func(n api.Node) api.Node {
			return node(api.NFor, node(api.NNone), node(api.NNone), node(api.NNone), node(api.NBlock, n))
		}, node(api.NBreak), 5},
	} {
		n := form.in
		for range deep / form.per {
			n = form.wrap(n)
		}
		if n.Kind >= api.XInt {
			n = node(api.NVar, named(api.NWord, "x"), n)
		}
		p, place, wrong := Program(function(n))
		if wrong != api.OK || place != 0 || len(p.Funcs) != 1 {
			t.Errorf("%s: %d at %d", name, wrong, place)
			continue
		}
		want := api.OK
		if plainCount(p.Funcs[0].Body, 1<<20) > api.MaxNodes {
			want = api.ErrLimit // a tree made by hand can have fewer nodes than terms; no source is so long
		}
		if wrong := Valid(p); wrong != want || !Same(p, p) {
			t.Errorf("%s: Valid: %d, want %d", name, wrong, want)
		}
	}
}

// Many of a thing are gone through soon.
func TestP8_1Wide(t *testing.T) {
	const many = 20000
	var stmts, numbers []api.Node
	call := node(api.NDo, named(api.XCall, "f"))
	for i := range many {
		stmts = append(stmts, call)
		numbers = append(numbers, api.Node{Kind: api.XInt, N: uint64(i)})
	}
	n := function(append(stmts, node(api.NSwitch, api.Node{Kind: api.XInt}, node(api.NCase, append(numbers, node(api.NBlock))...)))...)
	p, _, wrong := Program(n)
	if wrong != api.OK || len(p.Funcs[0].Body.Kids) != many+1 || Valid(p) != api.OK {
		t.Errorf("%d", wrong)
	}
	last := &n.Kids[0].Kids[2].Kids[many].Kids[1].Kids[many-1]
	last.N, last.At = 17, 5
	refusedAt(t, "one number twice", n, 5, api.ErrCase)
}

// What is handed in is not changed, what lies behind its lists' ends included; and what is answered is new each time.
func TestP8_1Memory(t *testing.T) {
	m := newAuthor(816, 300)
	for range 300 {
		s := m.program()
		n := read(t, s)
		widen(&n)
		ahead := fmt.Sprint(full(n))
		p, _, wrong := Program(n)
		if got := fmt.Sprint(full(n)); got != ahead {
			t.Fatalf("%s\nchanged", s)
		}
		if wrong != api.OK {
			continue
		}
		told := tellProgram(p)
		again, _, _ := Program(n)
		apart(t, s, p, again)
		ruin(&p)
		if tellProgram(again) != told {
			t.Fatalf("%s\nshares memory with another answer", s)
		}
	}
}

// widen lays something behind the end of each list of a tree.
func widen(n *api.Node) {
	kids := append(make([]api.Node, 0, len(n.Kids)+3), n.Kids...)
	copy(kids[len(kids):cap(kids)], []api.Node{{Kind: 77}, {Kind: 78}, {Kind: 79}})
	n.Kids = kids
	for i := range n.Kids {
		widen(&n.Kids[i])
	}
}

// full tells a tree, with what lies behind the ends of its lists.
func full(n api.Node) []any {
	list := []any{n.Kind, n.At, n.Text, n.N, len(n.Kids)}
	for _, k := range n.Kids[:cap(n.Kids)] {
		list = append(list, full(k))
	}
	return list
}

// apart holds all lists of two programs to share no memory, with one another or within one.
func apart(t *testing.T, s string, programs ...api.Program) {
	t.Helper()
	met := map[any]bool{}
	meet := func(first any) {
		if met[first] {
			t.Fatalf("%s\na list is there twice", s)
		}
		met[first] = true
	}
	for _, p := range programs {
		meetAll(p.Types, meet)
		meetAll(p.Funcs, meet)
		for i := range p.Types {
			meetAll(p.Types[i].Fields, meet)
		}
		for i := range p.Funcs {
			f := &p.Funcs[i]
			meetAll(f.Params, meet)
			meetAll(f.Results, meet)
			meetAll(f.Slots, meet)
			eachTerm(&f.Body, func(k *api.Term) { meetAll(k.Kids, meet) })
		}
	}
}

// meetAll calls meet with the address of each thing of a list, those behind its end included.
func meetAll[T any](l []T, meet func(any)) {
	l = l[:cap(l)]
	for i := range l {
		meet(&l[i])
	}
}

// ruin overwrites all of a program.
func ruin(p *api.Program) {
	for i := range p.Types {
		clear(p.Types[i].Fields)
		p.Types[i] = api.Type{}
	}
	for i := range p.Funcs {
		f := &p.Funcs[i]
		clear(f.Params)
		clear(f.Results)
		clear(f.Slots)
		ruinTerm(&f.Body)
		*f = api.Func{}
	}
}

func ruinTerm(t *api.Term) {
	for i := range t.Kids {
		ruinTerm(&t.Kids[i])
	}
	*t = api.Term{}
}
