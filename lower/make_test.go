package lower

import (
	"fmt"
	"math"
	"math/rand"
	"slices"
	"testing"

	"trammel/api"
	"trammel/check"
	"trammel/flow"
)

// Types of the programs that are made at will.
const (
	typeP = api.FirstType + iota
	typeQ
	typeE
	typePs
	typeThree
	typeLongs
	typeTexts
	typeTwo
	typeBools
	typeMany
)

func worldTypes() []api.Type {
	return []api.Type{
		{Kind: api.Record, Name: "P", Fields: []api.Field{{Name: "x", Type: api.I64}, {Name: "y", Type: api.Bool}, {Name: "t", Type: api.Text}, {Name: "l", Type: typePs}}},
		{Kind: api.Record, Name: "Q", Fields: []api.Field{{Name: "n", Type: api.I8}, {Name: "m", Type: api.I32}, {Name: "p", Type: typeP}, {Name: "q", Type: typeE}}},
		{Kind: api.Record, Name: "E"},
		{Kind: api.Grow, Elem: typeP},
		{Kind: api.Fixed, Elem: api.I8, Len: 3},
		{Kind: api.Grow, Elem: api.I64},
		{Kind: api.Grow, Elem: api.Text},
		{Kind: api.Fixed, Elem: typeTexts, Len: 2},
		{Kind: api.Grow, Elem: api.Bool},
		{Kind: api.Fixed, Elem: api.I32, Len: api.MaxArray},
	}
}

var ints = []int{api.I8, api.I32, api.I64}

// maker makes programs at will that may be, and of which no function with results comes to its end.
type maker struct {
	*rand.Rand
	p      api.Program
	slots  []int
	known  []int // those that may be asked for
	turns  []api.Term
	count  int64 // of turns
	gives  []int
	budget int // how many statements the function may still have
}

func madeBy(seed int64) *maker { return &maker{Rand: rand.New(rand.NewSource(seed))} }

func one[T any](m *maker, list ...T) T { return list[m.Intn(len(list))] }

func term(op uint8, kids ...api.Term) api.Term { return api.Term{Op: op, Kids: kids} }

func numbered(op uint8, n int64, kids ...api.Term) api.Term {
	return api.Term{Op: op, N: n, Kids: kids}
}

func valued(op uint8, typ int, kids ...api.Term) api.Term {
	return api.Term{Op: op, Type: typ, Kids: kids}
}

func whole(typ int, n int64) api.Term { return api.Term{Op: api.XInt, Type: typ, N: n} }

func text(s string) api.Term { return api.Term{Op: api.XText, Type: api.Text, Text: s} }

func (m *maker) typ() int {
	if m.Intn(2) == 0 {
		return 1 + m.Intn(5)
	}
	return api.FirstType + m.Intn(len(worldTypes()))
}

func (m *maker) types(most int) []int {
	var list []int
	for range m.Intn(most + 1) {
		list = append(list, m.typ())
	}
	return list
}

// program makes a program; a few of its functions have many results.
func (m *maker) program() api.Program {
	m.p = api.Program{Types: worldTypes()}
	for i := range 1 + m.Intn(5) {
		f := api.Func{Name: fmt.Sprint("f", i), Params: m.types(4), Results: m.types(one(m, 0, 1, 1, 3, 8))}
		m.p.Funcs = append(m.p.Funcs, f)
	}
	for i := range m.p.Funcs {
		m.function(&m.p.Funcs[i])
	}
	return m.p
}

func (m *maker) function(f *api.Func) {
	m.slots, m.known, m.turns, m.count, m.gives, m.budget = slices.Clone(f.Params), nil, nil, 0, f.Results, 3+m.Intn(30)
	for slot := range f.Params {
		m.known = append(m.known, slot)
	}
	f.Body = m.block(4)
	if len(f.Results) > 0 {
		f.Body.Kids = append(f.Body.Kids, one(m, term(api.SReturn, m.values(2, f.Results...)...), numbered(api.STrap, int64(m.Intn(256))), m.endless()))
	}
	f.Slots = m.slots
}

func (m *maker) endless() api.Term {
	m.count++
	return numbered(api.SLoop, m.count-1, valued(api.XTrue, api.Bool), term(api.SBlock), term(api.SBlock))
}

func (m *maker) block(depth int, first ...api.Term) api.Term {
	ahead := slices.Clone(m.known)
	t := term(api.SBlock, first...)
	for range m.Intn(5) {
		t.Kids = append(t.Kids, m.stmt(depth))
	}
	m.known = ahead
	return t
}

func (m *maker) stmt(depth int) api.Term {
	m.budget--
	if depth <= 0 || m.budget < 0 {
		return m.leaf()
	}
	switch m.Intn(10) {
	case 0:
		return m.block(depth - 1)
	case 1, 2:
		return term(api.SIf, m.value(3, api.Bool), m.block(depth-1), m.block(depth-1))
	case 3, 4:
		return m.loop(depth - 1)
	case 5, 6:
		return m.choice(depth - 1)
	}
	return m.leaf()
}

func (m *maker) loop(depth int) api.Term {
	t := numbered(api.SLoop, m.count)
	m.count++
	test := one(m, valued(api.XTrue, api.Bool), m.value(3, api.Bool), valued(api.XFalse, api.Bool))
	m.turns = append(m.turns, t)
	body := m.block(depth)
	m.turns = m.turns[:len(m.turns)-1]
	third := term(api.SBlock)
	if m.Intn(2) == 0 {
		ahead := slices.Clone(m.known)
		third.Kids = append(third.Kids, m.simple())
		m.known = ahead
	}
	t.Kids = []api.Term{test, body, third}
	return t
}

func (m *maker) choice(depth int) api.Term {
	typ := one(m, ints...)
	t := numbered(api.SSwitch, m.count, m.value(2, typ))
	m.count++
	m.turns = append(m.turns, t)
	ahead := map[int64]bool{}
	for range m.Intn(4) {
		var kids []api.Term
		for range 1 + m.Intn(4) {
			if n := m.number(typ); !ahead[n] {
				ahead[n] = true
				kids = append(kids, whole(typ, n))
			}
		}
		if len(kids) > 0 {
			t.Kids = append(t.Kids, term(api.SCase, append(kids, m.block(depth))...))
		}
	}
	t.Kids = append(t.Kids, m.block(depth))
	m.turns = m.turns[:len(m.turns)-1]
	return t
}

// number makes a number of a type: often a small one, or one of the ends.
func (m *maker) number(typ int) int64 {
	bits := map[int]int{api.I8: 8, api.I32: 32, api.I64: 64}[typ]
	switch m.Intn(4) {
	case 0:
		return int64(math.MinInt64) >> (64 - bits)
	case 1:
		return int64(math.MaxInt64) >> (64 - bits)
	case 2:
		return int64(m.Uint64()) >> (64 - bits)
	}
	return int64(m.Intn(8) - 4)
}

func (m *maker) leaf() api.Term {
	switch m.Intn(8) {
	case 0:
		if m.Intn(3) == 0 {
			return term(api.SReturn, m.values(2, m.gives...)...)
		}
		return numbered(api.STrap, int64(one(m, 0, 255, m.Intn(256))))
	case 1, 2, 3:
		if len(m.turns) > 0 {
			turn := one(m, m.turns...)
			if turn.Op == api.SLoop && m.Intn(2) == 0 {
				return numbered(api.SNext, turn.N)
			}
			return numbered(api.SBreak, turn.N)
		}
	}
	return m.simple()
}

// slot makes a slot that from now on may be asked for.
func (m *maker) slot(typ int) int64 {
	at := slices.Index(m.slots, typ)
	if at < 0 || len(m.slots) < 12 && m.Intn(2) == 0 {
		at = len(m.slots)
		m.slots = append(m.slots, typ)
	}
	if !slices.Contains(m.known, at) {
		m.known = append(m.known, at)
	}
	return int64(at)
}

// simple makes a statement that may stand behind each turn of a loop.
func (m *maker) simple() api.Term {
	switch m.Intn(7) {
	case 0:
		return m.fieldPut()
	case 1:
		typ := one(m, typePs, typeThree, typeLongs, typeTexts, typeTwo, typeBools, typeMany)
		return term(api.SAt, m.values(2, typ, api.I64, m.p.Types[typ-api.FirstType].Elem)...)
	case 2:
		typ := one(m, typePs, typeLongs, typeTexts, typeBools)
		return term(api.SPush, m.values(2, typ, m.p.Types[typ-api.FirstType].Elem)...)
	case 3:
		return term(api.SDo, m.call(2, m.Intn(len(m.p.Funcs))))
	case 4:
		for i, f := range m.p.Funcs {
			if len(f.Results) > 1 && m.Intn(2) == 0 {
				return m.several(i)
			}
		}
	}
	typ := m.typ()
	v := m.value(3, typ)
	return numbered(api.SPut, m.slot(typ), v)
}

func (m *maker) several(f int) api.Term {
	call := m.call(2, f)
	t := term(api.SPuts)
	for _, typ := range m.p.Funcs[f].Results {
		t.Kids = append(t.Kids, numbered(api.SSlot, m.slot(typ)))
	}
	t.Kids = append(t.Kids, call)
	return t
}

func (m *maker) fieldPut() api.Term {
	typ := one(m, typeP, typeQ)
	fields := m.p.Types[typ-api.FirstType].Fields
	at := m.Intn(len(fields))
	return numbered(api.SField, int64(at), m.values(2, typ, fields[at].Type)...)
}

func (m *maker) call(depth, f int) api.Term {
	t := api.Term{Op: api.XCall, N: int64(f), Kids: m.values(depth-1, m.p.Funcs[f].Params...)}
	if r := m.p.Funcs[f].Results; len(r) == 1 {
		t.Type = r[0]
	}
	return t
}

func (m *maker) values(depth int, types ...int) []api.Term {
	var list []api.Term
	for _, typ := range types {
		list = append(list, m.value(depth, typ))
	}
	return list
}

// value makes a value of a type.
func (m *maker) value(depth, typ int) api.Term {
	if m.Intn(3) == 0 {
		for _, slot := range m.Perm(len(m.known)) {
			if at := m.known[slot]; m.slots[at] == typ {
				return api.Term{Op: api.XName, Type: typ, N: int64(at)}
			}
		}
	}
	if depth > 0 && m.Intn(4) == 0 {
		if list := m.inside(depth-1, typ); len(list) > 0 {
			return one(m, list...)
		}
	}
	switch typ {
	case api.I8, api.I32, api.I64:
		return m.whole(depth, typ)
	case api.Bool:
		return m.truth(depth)
	case api.Text:
		return m.text(depth)
	}
	return m.thing(depth, typ)
}

// inside makes the values of a type that lie in others, or come of a call.
func (m *maker) inside(depth, typ int) []api.Term {
	var list []api.Term
	for i, t := range m.p.Types {
		for at, f := range t.Fields {
			if f.Type == typ {
				list = append(list, api.Term{Op: api.XField, Type: typ, N: int64(at), Kids: m.values(depth, api.FirstType+i)})
			}
		}
		if t.Kind != api.Record && t.Elem == typ {
			list = append(list, valued(api.XAt, typ, m.values(depth, api.FirstType+i, api.I64)...))
		}
		if t.Kind == api.Grow && t.Elem == typ {
			list = append(list, valued(api.XPop, typ, m.values(depth, api.FirstType+i)...))
		}
	}
	for i, f := range m.p.Funcs {
		if len(f.Results) == 1 && f.Results[0] == typ {
			list = append(list, m.call(depth, i))
		}
	}
	return list
}

func (m *maker) whole(depth, typ int) api.Term {
	if depth <= 0 {
		return whole(typ, m.number(typ))
	}
	switch m.Intn(6) {
	case 0:
		return valued(one(m, api.XNeg, api.XNot), typ, m.value(depth-1, typ))
	case 1, 2:
		return valued(api.XAdd+uint8(m.Intn(10)), typ, m.values(depth-1, typ, typ)...)
	case 3:
		return valued(api.XConv, typ, m.value(depth-1, one(m, ints...)))
	case 4:
		if typ == api.I64 {
			return valued(api.XLen, typ, m.value(depth-1, one(m, api.Text, typePs, typeThree, typeTwo)))
		}
		if typ == api.I32 {
			return valued(api.XAt, typ, m.values(depth-1, api.Text, api.I64)...)
		}
	}
	return whole(typ, m.number(typ))
}

func (m *maker) truth(depth int) api.Term {
	if depth <= 0 {
		return valued(one(m, api.XTrue, api.XFalse), api.Bool)
	}
	switch m.Intn(5) {
	case 0:
		return valued(api.XFlip, api.Bool, m.value(depth-1, api.Bool))
	case 1:
		typ := one(m, ints...)
		return valued(api.XEq+uint8(m.Intn(6)), api.Bool, m.values(depth-1, typ, typ)...)
	case 2:
		typ := one(m, api.Bool, api.Text)
		return valued(one(m, api.XEq, api.XNe), api.Bool, m.values(depth-1, typ, typ)...)
	}
	return valued(one(m, api.XBoth, api.XEither), api.Bool, m.values(depth-1, api.Bool, api.Bool)...)
}

func (m *maker) text(depth int) api.Term {
	if depth > 0 {
		switch m.Intn(5) {
		case 0, 1:
			return valued(api.XAdd, api.Text, m.values(depth-1, api.Text, api.Text)...)
		case 2:
			return valued(api.XCut, api.Text, m.values(depth-1, api.Text, api.I64, api.I64)...)
		case 3:
			return valued(api.XByte, api.Text, m.value(depth-1, api.I32))
		}
	}
	return text(one(m, "", "a", "b", "c", "d", "A", "ab", "\x00", "\xff", "a\x00"))
}

// thing makes a new record or array.
func (m *maker) thing(depth, typ int) api.Term {
	t := m.p.Types[typ-api.FirstType]
	v := valued(api.XNew, typ)
	switch t.Kind {
	case api.Record:
		for _, f := range t.Fields {
			v.Kids = append(v.Kids, m.value(depth-1, f.Type))
		}
	case api.Fixed:
		v.Kids = m.values(depth-1, t.Elem)
	}
	return v
}

// atWill calls f with so many programs at will.
func atWill(t *testing.T, seed int64, count int, f func(m *maker, p api.Program)) {
	t.Helper()
	m := madeBy(seed)
	for range count {
		p := m.program()
		if wrong := check.Valid(p); wrong != api.OK {
			t.Fatalf("%v: %d", p, wrong)
		}
		if place, wrong := flow.Check(p); wrong != api.OK {
			t.Fatalf("%v: %d, %d", p, place, wrong)
		}
		f(m, p)
	}
}
