package ops

import (
	"math/rand"
	"slices"
	"strconv"
	"strings"
	"testing"

	"trammel/api"
)

// wrong is a type that no module here has: what fields, arrays and functions name need not be there.
const wrong = 999

// sample is a module with each kind of type, and with functions, fields and arrays of types that are not there.
func sample() api.Module {
	return api.Module{
		Types: []api.Type{
			{Kind: api.Record, Name: "p", Fields: []api.Field{{Name: "x", Type: api.I32}, {Name: "y", Type: 17}}}, // 16
			{Kind: api.Grow, Elem: api.Text},          // 17
			{Kind: api.Fixed, Elem: api.Bool, Len: 3}, // 18
			{Kind: api.Record, Name: "q"},             // 19
			{Kind: api.Grow, Elem: wrong},             // 20
			{Kind: api.Fixed, Elem: -1},               // 21
			{Kind: api.Record, Fields: []api.Field{{Type: wrong}, {Type: -7}, {Type: 0}}}, // 22
			{Kind: 0, Elem: api.I8, Fields: []api.Field{{Type: api.I8}}},                  // 23
			{Kind: 9, Elem: api.I8, Fields: []api.Field{{Type: api.I8}}},                  // 24
			{Kind: api.I8, Elem: api.I8, Fields: []api.Field{{Type: api.I8}}},             // 25
		},
		Texts: []string{"a", ""},
		Funcs: []api.Routine{
			{Params: []int{api.Bool, api.I8}, Results: []int{api.I64, api.Text}}, {},
			{Params: []int{wrong, -1}, Results: []int{0}}, {Results: []int{16}}, {Params: []int{16}},
		},
	}
}

func TestP12_3Examples(t *testing.T) {
	m := api.Module{Types: []api.Type{{Kind: api.Record}, {Kind: api.Grow, Elem: api.Text}}}
	for _, x := range []struct {
		x           api.Instr
		takes, puts []int
		err         api.Errno
	}{
		{api.Instr{Op: api.OpAdd, A: 2}, []int{api.I32, api.I32}, []int{api.I32}, api.OK},
		{api.Instr{Op: api.OpSwitch, A: 3}, []int{api.I64}, nil, api.OK},
		{api.Instr{Op: api.OpText}, nil, nil, api.ErrArg},
		{api.Instr{Op: api.OpAt, A: 17}, []int{17, api.I64}, []int{api.Text}, api.OK},
	} {
		takes, puts, err := Takes(x.x, m)
		if !slices.Equal(takes, x.takes) || !slices.Equal(puts, x.puts) || err != x.err {
			t.Errorf("Takes(%s) = %v, %v, %d, want %v, %v, %d", tell(x.x), takes, puts, err, x.takes, x.puts, x.err)
		}
	}
}

type types = []int

// effects is an instruction, what it takes and what it puts.
type effects struct {
	x           api.Instr
	takes, puts types
}

// told are those over sample, written out.
func told() []effects {
	const i8, i32, i64, boolean, text, anything = api.I8, api.I32, api.I64, api.Bool, api.Text, 0
	return []effects{
		{api.Instr{Op: api.OpI8, A: 3}, nil, types{i8}}, {api.Instr{Op: api.OpI32, A: 1}, nil, types{i32}}, {api.Instr{Op: api.OpI64, A: 2}, nil, types{i64}},
		{api.Instr{Op: api.OpTrue}, nil, types{boolean}}, {api.Instr{Op: api.OpFalse}, nil, types{boolean}}, {api.Instr{Op: api.OpText, A: 1}, nil, types{text}},
		{api.Instr{Op: api.OpGet, A: 65535}, nil, types{anything}}, {api.Instr{Op: api.OpPut, A: 65535}, types{anything}, nil},
		{api.Instr{Op: api.OpPop}, types{anything}, nil}, {api.Instr{Op: api.OpDup}, types{anything}, types{anything, anything}},
		{api.Instr{Op: api.OpEq, A: boolean}, types{boolean, boolean}, types{boolean}}, {api.Instr{Op: api.OpNe, A: text}, types{text, text}, types{boolean}},
		{api.Instr{Op: api.OpEq, A: i32}, types{i32, i32}, types{boolean}}, {api.Instr{Op: api.OpNe, A: i64}, types{i64, i64}, types{boolean}},
		{api.Instr{Op: api.OpConv, A: i8, B: i64}, types{i8}, types{i64}}, {api.Instr{Op: api.OpFlip}, types{boolean}, types{boolean}},
		{api.Instr{Op: api.OpCat}, types{text, text}, types{text}}, {api.Instr{Op: api.OpSize}, types{text}, types{i64}},
		{api.Instr{Op: api.OpCharAt}, types{text, i64}, types{i32}}, {api.Instr{Op: api.OpCut}, types{text, i64, i64}, types{text}},
		{api.Instr{Op: api.OpByte}, types{i32}, types{text}},
		{api.Instr{Op: api.OpNew, A: 16}, types{i32, 17}, types{16}}, {api.Instr{Op: api.OpNew, A: 19}, nil, types{19}},
		{api.Instr{Op: api.OpNew, A: 22}, types{wrong, -7, 0}, types{22}},
		{api.Instr{Op: api.OpField, A: 16, B: 1}, types{16}, types{17}}, {api.Instr{Op: api.OpField, A: 22, B: 1}, types{22}, types{-7}},
		{api.Instr{Op: api.OpSetField, A: 16}, types{16, i32}, nil},
		{api.Instr{Op: api.OpFill, A: 18}, types{boolean}, types{18}}, {api.Instr{Op: api.OpFill, A: 21}, types{-1}, types{21}},
		{api.Instr{Op: api.OpEmpty, A: 17}, nil, types{17}}, {api.Instr{Op: api.OpAt, A: 18}, types{18, i64}, types{boolean}},
		{api.Instr{Op: api.OpSetAt, A: 17}, types{17, i64, text}, nil}, {api.Instr{Op: api.OpSetAt, A: 18}, types{18, i64, boolean}, nil},
		{api.Instr{Op: api.OpLen, A: 17}, types{17}, types{i64}}, {api.Instr{Op: api.OpLen, A: 18}, types{18}, types{i64}},
		{api.Instr{Op: api.OpPush, A: 20}, types{20, wrong}, nil}, {api.Instr{Op: api.OpDrop, A: 20}, types{20}, types{wrong}},
		{api.Instr{Op: api.OpJump, A: 9}, nil, nil}, {api.Instr{Op: api.OpUnless, A: 9}, types{boolean}, nil}, {api.Instr{Op: api.OpWhen, A: 9}, types{boolean}, nil},
		{api.Instr{Op: api.OpSwitch, A: i8, Arms: arms(1)}, types{i8}, nil},
		{api.Instr{Op: api.OpCall}, types{boolean, i8}, types{i64, text}}, {api.Instr{Op: api.OpCall, A: 1}, nil, nil},
		{api.Instr{Op: api.OpCall, A: 2}, types{wrong, -1}, types{0}}, {api.Instr{Op: api.OpCall, A: 3}, nil, types{16}}, {api.Instr{Op: api.OpCall, A: 4}, types{16}, nil},
		{api.Instr{Op: api.OpReturn}, nil, nil}, {api.Instr{Op: api.OpTrap, A: 3}, nil, nil},
	}
}

// reckoned are those of the Ops that reckon, or hold two ints against each other, of each width.
func reckoned() []effects {
	var list []effects
	for w := api.I8; w <= api.I64; w++ {
		for op := api.OpAdd; op <= api.OpShr; op++ {
			list = append(list, effects{api.Instr{Op: op, A: int64(w)}, types{w, w}, types{w}})
		}
		for op := api.OpNeg; op <= api.OpNot; op++ {
			list = append(list, effects{api.Instr{Op: op, A: int64(w)}, types{w}, types{w}})
		}
		for op := api.OpLt; op <= api.OpGe; op++ {
			list = append(list, effects{api.Instr{Op: op, A: int64(w)}, types{w, w}, types{api.Bool}})
		}
	}
	return list
}

func TestP12_3EachOp(t *testing.T) {
	m, seen := sample(), map[uint8]int{}
	for _, x := range append(told(), reckoned()...) {
		takes, puts, err := Takes(x.x, m)
		if !slices.Equal(takes, x.takes) || !slices.Equal(puts, x.puts) || err != api.OK {
			t.Errorf("Takes(%s) = %v, %v, %d, want %v, %v", tell(x.x), takes, puts, err, x.takes, x.puts)
		}
		seen[x.x.Op]++
	}
	if len(seen) != 52 {
		t.Errorf("rows of %d Ops", len(seen))
	}
}

// Each Op, whatever A and B are: over nothing, over a module of each kind of type, and over ever shorter ones, in which what is named is just
// not there.
func TestP12_3WhatIsThere(t *testing.T) {
	full := sample()
	modules := []api.Module{{}, full, {Types: full.Types}, {Texts: full.Texts}, {Funcs: full.Funcs}}
	for n := range len(full.Types) {
		modules = append(modules, api.Module{Types: full.Types[:n], Texts: full.Texts[:min(n, 2)], Funcs: full.Funcs[:min(n, 5)]})
	}
	as := append(edges(), 10, 11, 12, 13, 14, 15, 16, 17, 18, 19, 20, 21, 22, 23, 24, 25, 26, 27)
	ended := map[api.Errno]int{}
	for _, m := range modules {
		for op := range 256 {
			for _, a := range as {
				for _, b := range []int64{-1, 0, 1, 2, 3, 4, 65535, 65536} {
					ended[isTaken(t, api.Instr{Op: uint8(op), A: a, B: b}, m)]++
				}
			}
		}
	}
	for _, err := range []api.Errno{api.OK, api.ErrArg, api.ErrOp} {
		if ended[err] < 1000 {
			t.Errorf("error %d came %d times", err, ended[err])
		}
	}
}

// Which kinds of types each Op may name, written out.
func TestP12_3Kinds(t *testing.T) {
	m := sample()
	for _, x := range []struct {
		op   uint8
		good string
	}{
		{api.OpNew, "16 19 22"}, {api.OpField, "16 22"}, {api.OpSetField, "16 22"}, {api.OpFill, "18 21"},
		{api.OpEmpty, "17 20"}, {api.OpPush, "17 20"}, {api.OpDrop, "17 20"},
		{api.OpAt, "17 18 20 21"}, {api.OpSetAt, "17 18 20 21"}, {api.OpLen, "17 18 20 21"},
	} {
		var good []string
		for a := range int64(65536) {
			takes, puts, err := Takes(api.Instr{Op: x.op, A: a}, m)
			if err == api.OK {
				good = append(good, strconv.FormatInt(a, 10))
			} else if err != api.ErrArg || len(takes)+len(puts) > 0 {
				t.Fatalf("Takes of Op %d, type %d: %v, %v, %d", x.op, a, takes, puts, err)
			}
		}
		if got := strings.Join(good, " "); got != x.good {
			t.Errorf("Op %d may name %s, want %s", x.op, got, x.good)
		}
	}
}

// What is there last, and what is just not there.
func TestP12_3Edges(t *testing.T) {
	m := sample()
	big := api.Module{Types: make([]api.Type, 70000), Texts: make([]string, 70000), Funcs: make([]api.Routine, 70000)}
	for i := range big.Types {
		big.Types[i] = api.Type{Kind: api.Grow, Elem: i}
	}
	for _, x := range []struct {
		x   api.Instr
		m   api.Module
		err api.Errno
	}{
		{api.Instr{Op: api.OpText, A: 1}, m, api.OK}, {api.Instr{Op: api.OpText, A: 2}, m, api.ErrArg}, {api.Instr{Op: api.OpText, A: 65535}, big, api.OK},
		{api.Instr{Op: api.OpCall, A: 4}, m, api.OK}, {api.Instr{Op: api.OpCall, A: 5}, m, api.ErrArg}, {api.Instr{Op: api.OpCall, A: 65535}, big, api.OK},
		{api.Instr{Op: api.OpPush, A: 65535}, big, api.OK}, {api.Instr{Op: api.OpPush, A: 65536}, big, api.ErrOp}, {api.Instr{Op: api.OpPush, A: 15}, big, api.ErrArg},
		{api.Instr{Op: api.OpPush, A: 0}, big, api.ErrArg}, {api.Instr{Op: api.OpPush, A: -1}, big, api.ErrOp}, {api.Instr{Op: api.OpPush, A: 16}, big, api.OK},
		{api.Instr{Op: api.OpField, A: 16, B: 1}, m, api.OK}, {api.Instr{Op: api.OpField, A: 16, B: 2}, m, api.ErrArg}, {api.Instr{Op: api.OpField, A: 19}, m, api.ErrArg},
		{api.Instr{Op: api.OpSetField, A: 16, B: 2}, m, api.ErrArg}, {api.Instr{Op: api.OpSetField, A: 16, B: 65536}, m, api.ErrOp},
		{api.Instr{Op: api.OpNew, A: 16, B: 1}, m, api.ErrOp}, {api.Instr{Op: api.OpText, A: 9, B: 1}, m, api.ErrOp}, {api.Instr{Op: api.OpCall, A: 9, Arms: arms(1)}, m, api.ErrOp},
		{api.Instr{Op: api.OpSwitch, A: 1, Arms: arms(127, -128)}, api.Module{}, api.OK}, {api.Instr{Op: api.OpSwitch, A: 1, Arms: arms(127, 128)}, m, api.ErrOp},
		{api.Instr{Op: api.OpSwitch, A: 1, Arms: many(65535)}, m, api.OK}, {api.Instr{Op: api.OpSwitch, A: 1, Arms: many(65536)}, m, api.ErrOp},
		{api.Instr{}, m, api.ErrOp}, {api.Instr{Op: 53}, m, api.ErrOp}, {api.Instr{Op: 255}, m, api.ErrOp},
	} {
		if err := isTaken(t, x.x, x.m); err != x.err {
			t.Errorf("Takes(%s) = %d, want %d", tell(x.x), err, x.err)
		}
	}
}

// Modules and instructions made at will.
func TestP12_3AnyModule(t *testing.T) {
	r := rand.New(rand.NewSource(124))
	ended := map[api.Errno]int{}
	for range 20000 {
		m := anyModule(r)
		for range 20 {
			x := api.Instr{Op: uint8(1 + r.Intn(52)), A: int64(r.Intn(24)), B: int64(r.Intn(4) * r.Intn(2))}
			if r.Intn(4) == 0 {
				x.A = int64(1 + r.Intn(3))
			}
			ended[isTaken(t, x, m)]++
		}
	}
	for _, err := range []api.Errno{api.OK, api.ErrArg, api.ErrOp} {
		if ended[err] < 1000 {
			t.Errorf("error %d came %d times", err, ended[err])
		}
	}
}

func anyTypes(r *rand.Rand) []int {
	var list []int
	for range r.Intn(5) {
		list = append(list, r.Intn(30)-3)
	}
	return list
}

func anyModule(r *rand.Rand) api.Module {
	var m api.Module
	for range r.Intn(9) {
		x := api.Type{Kind: uint8(5 + r.Intn(5)), Elem: r.Intn(30) - 3}
		for _, n := range anyTypes(r) {
			x.Fields = append(x.Fields, api.Field{Type: n})
		}
		m.Types = append(m.Types, x)
	}
	for range r.Intn(9) {
		m.Funcs = append(m.Funcs, api.Routine{Params: anyTypes(r), Results: anyTypes(r)})
	}
	m.Texts = make([]string, r.Intn(9))
	return m
}
