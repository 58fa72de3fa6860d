package parse

import (
	"math"
	"math/rand"
	"slices"
	"strings"
	"testing"

	"trammel/api"
)

var (
	a     = named(api.XName, "a")
	one   = whole(1, "")
	block = node(api.NBlock)
	none  = node(api.NNone)
	word  = named(api.NWord, "a")
	i8    = named(api.NNamed, "i8")
	call  = named(api.XCall, "f")
	push  = node(api.XPush, a, one)
	field = named(api.NField, "x", i8)
	arm   = node(api.NCase, one, block)
	rest  = node(api.NDefault, block)
	set   = node(api.NSet, a, one)
)

// mayBe tells by reading what Check should answer: whether some text has this tree. (Whatever text the writer makes of a tree that
// may not be, no reading of it is that tree.)
func mayBe(n api.Node) (ok bool) {
	defer func() {
		if recover() != nil { // the writer misses a Kid or a text
			ok = false
		}
	}()
	n = clone(n)
	text := source(&n, nil)
	switch {
	case n.Kind >= api.XInt:
		e, _, err := Expr(text)
		return err == api.OK && same(e, n)
	case n.Kind == api.NNamed || n.Kind == api.NFixed || n.Kind == api.NGrow:
		e, _, err := Type(text)
		return err == api.OK && same(e, n)
	case n.Kind == api.NProgram:
		e, _, err := Source(text)
		return err == api.OK && same(e, n)
	}
	e, _, err := Source("fn f() {" + text + "}")
	return err == api.OK && len(e.Kids) == 1 && same(e.Kids[0].Kids[2], node(api.NBlock, n))
}

func clone(n api.Node) api.Node {
	n.Kids = slices.Clone(n.Kids)
	for i, k := range n.Kids {
		n.Kids[i] = clone(k)
	}
	return n
}

func asRead(t *testing.T, n api.Node) bool {
	t.Helper()
	want := api.ErrTree
	if mayBe(n) {
		want = api.OK
	}
	if e := Check(n); e != want {
		t.Fatalf("Check(%s) = %d, want %d", tell(n), e, want)
	}
	return want == api.OK
}

// samples: a tree of each kind that may be, where its kind is asked for, and some that may not.
func samples() []api.Node {
	list := []api.Node{
		{}, node(api.NProgram), named(api.NRecord, "P"), field, named(api.NFunc, "f", node(api.NParams), node(api.NTypes), block), node(api.NParams), node(api.NTypes),
		i8, {Kind: api.NFixed, N: 3, Kids: []api.Node{i8}}, node(api.NGrow, i8), block, node(api.NVar, word, one), set, node(api.NDo, call), node(api.NDo, push),
		node(api.NIf, a, block), node(api.NWhile, a, block), node(api.NFor, none, none, none, block), node(api.NSwitch, a), arm, rest,
		node(api.NBreak), node(api.NContinue), node(api.NReturn), node(api.NTrap), none, word,
		one, named(api.XText, "t"), node(api.XTrue), node(api.XFalse), a, call, named(api.XConv, "i8", a), node(api.XNew, i8),
		named(api.XField, "x", a), named(api.XField, "x", one), node(api.XAt, a, one), node(api.XAt, call, one), node(api.XAt, node(api.XAdd, a, a), one),
		node(api.XLen, a), node(api.XCut, a, a, a), node(api.XByte, a), node(api.XPop, a), push, node(api.XNeg, one), node(api.XNeg, a), node(api.XNot, one), node(api.XFlip, a),
		{Kind: 26}, {Kind: 39}, {Kind: 58}, node(59, a, a), node(78, a, a), {Kind: 255},
	}
	return append(list, node(api.XAdd, a, one), node(api.XShr, a, one), node(api.XEither, a, one))
}

// texts are such as some kind of node takes, or none.
var texts = []string{"", "a", "while", "i8", "i32", "i64", "bool", "bytes", "i16", "1a", "a b", "a ", "\x00", "if", "push", "true"}

// Each kind of node with none, one and two Kids of each kind, with each text and with some numbers.
func TestP4_3Kinds(t *testing.T) {
	few := samples()
	good := map[uint8]int{}
	look := func(n api.Node) {
		t.Helper()
		if asRead(t, n) {
			good[n.Kind]++
		}
	}
	for kind := range 256 {
		k := uint8(kind)
		for _, text := range texts {
			for _, number := range []uint64{0, 1, 255, 256, math.MaxUint32, math.MaxUint32 + 1, math.MaxUint64} {
				look(api.Node{Kind: k, Text: text, N: number})
				look(api.Node{Kind: k, Text: text, N: number, Kids: []api.Node{i8}})
				look(api.Node{Kind: k, Text: text, N: number, Kids: []api.Node{a}})
				look(api.Node{Kind: k, Text: text, N: number, Kids: []api.Node{a, block}})
			}
		}
		if k > api.XEither+2 {
			continue // so much for kinds that there are not
		}
		for _, text := range []string{"", "a"} {
			for _, first := range few {
				look(named(k, text, first))
				for _, second := range few {
					look(named(k, text, first, second))
				}
			}
		}
	}
	for _, k := range []uint8{api.NNamed, api.NFixed, api.NGrow, api.NBlock, api.NVar, api.NSet, api.NDo, api.NIf, api.NWhile, api.NSwitch, api.NBreak, api.NContinue, api.NReturn, api.NTrap,
		api.XInt, api.XText, api.XTrue, api.XFalse, api.XName, api.XCall, api.XConv, api.XNew, api.XField, api.XAt, api.XLen, api.XByte, api.XPop, api.XNeg, api.XNot, api.XFlip, api.XAdd, api.XShr, api.XEither} {
		if good[k] == 0 {
			t.Errorf("no tree of the kind %d may be", k)
		}
	}
	for _, k := range []uint8{0, api.NRecord, api.NField, api.NFunc, api.NParams, api.NTypes, api.NCase, api.NDefault, api.NNone, api.NWord, api.XPush, 26, 39, 58, 59, 78, 255} {
		if good[k] > 0 {
			t.Errorf("a tree of the kind %d alone may be", k)
		}
	}
}

// Each kind that has three Kids or four, with each Kid changed for one of each kind, left out, or put twice; likewise of longer lists.
func TestP4_3Kids(t *testing.T) {
	few := samples()
	for _, n := range []api.Node{
		node(api.NProgram, named(api.NRecord, "P", field, field), named(api.NFunc, "f", node(api.NParams, field, field), node(api.NTypes, i8, i8), node(api.NBlock, set, set))),
		node(api.NIf, a, block, block), node(api.NIf, a, block, node(api.NIf, a, block)), node(api.NIf, a, block),
		named(api.NWhile, "L", a, block), node(api.NFor, node(api.NVar, word, one), a, set, block), named(api.NFor, "L", none, none, none, block), node(api.NFor, set, a, node(api.NDo, call), block),
		node(api.NSwitch, a, arm, arm, rest), named(api.NSwitch, "L", a, arm, arm), node(api.NSwitch, a, rest), node(api.NSwitch, a, node(api.NCase, one, node(api.XNeg, one), one, block)),
		node(api.NVar, word, word, word, call), node(api.NSet, a, a, a, call), node(api.NSet, named(api.XField, "x", node(api.XAt, call, a)), one), node(api.NSet, node(api.XAt, named(api.XField, "x", a), a), one),
		node(api.XCut, a, one, a), node(api.XNew, i8, a, one), named(api.XCall, "f", a, one, call), node(api.NReturn, a, one, a), node(api.NBlock, set, block, node(api.NReturn)),
		node(api.NDo, push), node(api.NGrow, api.Node{Kind: api.NFixed, N: 9, Kids: []api.Node{i8}}),
		node(api.XAt, node(api.XAt, node(api.XNeg, one), node(api.XNew, i8)), named(api.XField, "x", one)),
	} {
		if !asRead(t, n) {
			t.Errorf("%s may not be", tell(n))
		}
		changed(n, few, func(n api.Node) { asRead(t, n) })
	}
}

// changed calls f with all trees that come of a tree by one change somewhere in it.
func changed(n api.Node, few []api.Node, f func(api.Node)) {
	for _, text := range texts {
		f(api.Node{Kind: n.Kind, Text: text, N: n.N, Kids: n.Kids})
	}
	for _, number := range []uint64{0, 1, 256} {
		f(api.Node{Kind: n.Kind, Text: n.Text, N: number, Kids: n.Kids})
	}
	for i, k := range n.Kids {
		with := func(k ...api.Node) api.Node {
			return api.Node{Kind: n.Kind, Text: n.Text, N: n.N, Kids: slices.Concat(n.Kids[:i], k, n.Kids[i+1:])}
		}
		f(with())
		f(with(k, k))
		for _, other := range few {
			f(with(other))
			f(with(other, k))
			f(with(k, other))
		}
		changed(k, few, func(k api.Node) { f(with(k)) })
	}
}

// Trees made at will, and changed at will.
func TestP4_3AtWill(t *testing.T) {
	m, few := maker{rand.New(rand.NewSource(43))}, samples()
	good, bad := 0, 0
	for i := range 20000 {
		n := m.program()
		switch i % 4 {
		case 1:
			n = m.expr(4)
		case 2:
			n = m.typeOf(4)
		case 3:
			n = m.stmt(3)
		}
		if i%3 > 0 {
			m.change(&n, few)
		}
		if asRead(t, n) {
			good++
		} else {
			bad++
		}
	}
	if good < 3000 || bad < 3000 {
		t.Errorf("%d may be, %d may not", good, bad)
	}
}

// change changes one node of a tree.
func (m maker) change(n *api.Node, few []api.Node) {
	for len(n.Kids) > 0 && m.Intn(4) > 0 {
		n = &n.Kids[m.Intn(len(n.Kids))]
	}
	switch m.Intn(6) {
	case 0:
		n.Kind = uint8(m.Intn(80))
	case 1:
		n.Text = texts[m.Intn(len(texts))]
	case 2:
		n.N = m.number(64)
	case 3:
		*n = few[m.Intn(len(few))]
	case 4:
		n.Kids = append(n.Kids, few[m.Intn(len(few))])
	case 5:
		if len(n.Kids) > 0 {
			n.Kids = slices.Delete(n.Kids, 0, 1)
		}
	}
}

func TestP4_3ByHand(t *testing.T) {
	for name, n := range map[string]api.Node{
		"no kind": {}, "a kept word": named(api.XName, "while"), "a sum of one": node(api.XAdd, a), "a sum of three": node(api.XAdd, a, a, a), "256i8": whole(256, "i8"), "2^32 i32": whole(1<<32, "i32"), "i16": whole(1, "i16"),
		"a field alone": field, "a push alone": push, "a push as a value": node(api.NReturn, push), "a sum put to": node(api.NSet, node(api.XAdd, a, a), a), "a call put to": node(api.NSet, call, a),
		"a field of a sum put to": node(api.NSet, named(api.XField, "x", node(api.XAdd, a, a)), a), "a chain in a row": node(api.NSet, a, named(api.XField, "x", a), call), "a place of a text put to": node(api.NSet, node(api.XAt, named(api.XText, "t"), one), one),
		"trap 256": {Kind: api.NTrap, N: 256}, "a true with a text": named(api.XTrue, "x"), "a true with a number": {Kind: api.XTrue, N: 1}, "a name with a number": {Kind: api.XName, Text: "a", N: 1}, "a type with a Kid": named(api.NNamed, "i8", i8),
		"a case of a name": node(api.NSwitch, a, node(api.NCase, a, block)), "a case of a not": node(api.NSwitch, a, node(api.NCase, node(api.XNot, one), block)), "a case of - - 1": node(api.NSwitch, a, node(api.NCase, node(api.XNeg, node(api.XNeg, one)), block)), "a case of nothing": node(api.NSwitch, a, node(api.NCase, block)), "a default first": node(api.NSwitch, a, rest, arm), "two defaults": node(api.NSwitch, a, rest, rest),
		"a for without a none": node(api.NFor, a, none, none, block), "a var as a step": node(api.NFor, none, none, node(api.NVar, word, one), block), "an else of a while": node(api.NIf, a, block, node(api.NWhile, a, block)),
		"a program in a program": node(api.NProgram, node(api.NProgram)), "a stmt in a program": node(api.NProgram, set), "a var without a name": node(api.NVar, one), "a set without a value": node(api.NSet, a), "an empty name": node(api.XName), "a label that is kept": named(api.NWhile, "if", a, block), "a record of a kept name": node(api.NProgram, named(api.NRecord, "i8")), "a conv to bool": named(api.XConv, "bool", a), "a value of a none": node(api.NReturn, none), "a done sum": node(api.NDo, node(api.XAdd, a, a)),
	} {
		if e := Check(n); e != api.ErrTree {
			t.Errorf("%s: %d", name, e)
		}
	}
	for name, n := range map[string]api.Node{
		"nothing": node(api.NProgram), "no Kids, not nil": {Kind: api.NProgram, Kids: []api.Node{}}, "255i8": whole(255, "i8"), "2^32 - 1 i32": whole(1<<32-1, "i32"), "2^64 - 1 i64": whole(math.MaxUint64, "i64"), "2^64 - 1": whole(math.MaxUint64, ""), "a long text": named(api.XText, strings.Repeat("\x00\xff", 100000)), "a long name": named(api.XName, strings.Repeat("a", 100000)),
		"a place": {Kind: api.XName, Text: "a", At: -5}, "an array of 2^64 - 1": {Kind: api.NFixed, N: math.MaxUint64, Kids: []api.Node{i8}}, "a field of a number": named(api.XField, "x", one), "a - of a -": node(api.XNeg, node(api.XNeg, one)),
	} {
		if e := Check(n); e != api.OK {
			t.Errorf("%s: %d", name, e)
		}
	}
}

// MaxNodes nodes, and one more: wide, deep, wrong ahead, and trees that hold themselves.
func TestP4_3Nodes(t *testing.T) {
	wide := func(kids int, kid api.Node) api.Node {
		n := node(api.NReturn)
		for range kids {
			n.Kids = append(n.Kids, kid)
		}
		return n
	}
	deep := func(nodes int) api.Node {
		n := a
		for range nodes - 1 {
			n = node(api.XNeg, n)
		}
		return n
	}
	left := func(signs int) api.Node {
		n := a
		for range signs {
			n = node(api.XAdd, n, a)
		}
		return n
	}
	loop := node(api.XNeg, a)
	loop.Kids[0] = loop
	many := wide(3, a)
	for range 40 {
		many = wide(3, many)
	}
	for name, x := range map[string]struct {
		n    api.Node
		want api.Errno
	}{
		"wide": {wide(api.MaxNodes-1, a), api.OK}, "too wide": {wide(api.MaxNodes, a), api.ErrLimit}, "wide and wrong": {wide(api.MaxNodes-1, none), api.ErrTree}, "too wide and wrong": {wide(api.MaxNodes, none), api.ErrLimit},
		"deep": {deep(api.MaxNodes), api.OK}, "too deep": {deep(api.MaxNodes + 1), api.ErrLimit}, "very deep": {deep(1 << 20), api.ErrLimit}, "very deep beside": {node(api.NReturn, none, deep(1<<20)), api.ErrLimit},
		"left": {left(api.MaxNodes/2 - 1), api.OK}, "left and one": {node(api.XNeg, left(api.MaxNodes/2-1)), api.OK}, "left and two": {node(api.XNeg, node(api.XNeg, left(api.MaxNodes/2-1))), api.ErrLimit},
		"itself": {loop, api.ErrLimit}, "no kind, too many": {api.Node{Kids: make([]api.Node, api.MaxNodes)}, api.ErrLimit}, "no kind": {api.Node{Kids: make([]api.Node, api.MaxNodes-1)}, api.ErrTree}, "3^40": {many, api.ErrLimit},
	} {
		if e := Check(x.n); e != x.want {
			t.Errorf("%s: %d, want %d", name, e, x.want)
		}
	}
}

// What is handed in stays as it is, what lies behind its lists too.
func TestP4_3Unchanged(t *testing.T) {
	kids := []api.Node{a, one, {Kind: 77, Text: "behind"}, {Kind: 78}}
	n := node(api.XAdd, kids[:2]...)
	before := clone(node(0, kids...))
	if e := Check(n); e != api.OK || !sameAll(before, node(0, kids...)) {
		t.Errorf("Check: %d, %s", e, tell(node(0, kids...)))
	}
}
