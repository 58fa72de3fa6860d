package image

import (
	"math"
	"math/rand"
	"slices"
	"testing"

	"trammel/api"
	"trammel/ops"
)

// instrs puts instructions' bytes one behind the other.
func instrs(list ...api.Instr) []byte {
	var b []byte
	for _, x := range list {
		c, err := ops.Encode(x)
		if err != api.OK {
			panic(x)
		}
		b = append(b, c...)
	}
	return b
}

// ints makes a list of so many times one number.
func ints(n, count int) []int { return slices.Repeat([]int{n}, count) }

// fields makes so many fields of i8.
func fields(n int) []api.Field { return slices.Repeat([]api.Field{{Type: api.I8}}, n) }

// trues makes a code of so many instructions of a byte.
func trues(n int) []byte { return slices.Repeat([]byte{4}, n) }

// flaw is something wrong with a module: at which place of Check's row it stands, its error, and how a module gets it.
type flaw struct {
	rank int
	err  api.Errno
	name string
	make func(m *api.Module)
}

// typeFlaws are those of the type at a place, limits first.
func typeFlaws(rank, at int) []flaw {
	record := func(fields ...api.Field) api.Type {
		return api.Type{Kind: api.Record, Fields: fields}
	}
	var list []flaw
	add := func(rank int, err api.Errno, name string, x api.Type) {
		list = append(list, flaw{rank, err, name, func(m *api.Module) { m.Types[at] = x }})
	}
	add(rank, api.ErrLimit, "33 fields", record(fields(33)...))
	add(rank, api.ErrLimit, "33 fields of a Grow", api.Type{Kind: api.Grow, Elem: 99, Fields: fields(33)})
	add(rank, api.ErrLimit, "fields of types that are not there", record(slices.Repeat([]api.Field{{Type: 99}}, 33)...))
	add(rank, api.ErrLimit, "a long name", api.Type{Kind: api.Record, Name: long(65537)})
	add(rank, api.ErrLimit, "a long name of no Kind", api.Type{Name: long(65537)})
	add(rank, api.ErrLimit, "a field's long name", record(api.Field{Type: 1}, api.Field{Name: long(65537), Type: 1}))
	add(rank, api.ErrLimit, "a field's long name, and a type that is not there", record(api.Field{Type: 99}, api.Field{Name: long(65537), Type: 1}))
	add(rank+1, api.ErrModule, "no Kind", api.Type{})
	add(rank+1, api.ErrModule, "a field of a type that is not there", record(api.Field{Type: 1}, api.Field{Type: 15}))
	add(rank+1, api.ErrModule, "an Elem that is not there", api.Type{Kind: api.Grow, Elem: 0})
	add(rank+1, api.ErrModule, "a Len", api.Type{Kind: api.Fixed, Elem: 1, Len: 65537})
	return list
}

// funcFlaws are those of the function at a place, limits first.
func funcFlaws(rank, at int) []flaw {
	var list []flaw
	add := func(rank int, err api.Errno, name string, f api.Routine) {
		list = append(list, flaw{rank, err, name, func(m *api.Module) { m.Funcs[at] = f }})
	}
	add(rank, api.ErrLimit, "33 params", api.Routine{Params: ints(1, 33), Locals: 33})
	add(rank, api.ErrLimit, "33 params that are not there", api.Routine{Params: ints(-1, 33), Locals: -5})
	add(rank, api.ErrLimit, "9 results", api.Routine{Results: ints(1, 9)})
	add(rank, api.ErrLimit, "257 locals", api.Routine{Locals: 257, Stack: -1})
	add(rank, api.ErrLimit, "a long code", api.Routine{Code: trues(65537)})
	add(rank, api.ErrLimit, "a long code of no instruction", api.Routine{Code: make([]byte, 65537)})
	add(rank, api.ErrLimit, "a long name", api.Routine{Name: long(65537), Code: []byte{0}})
	add(rank, api.ErrLimit, "a high stack", api.Routine{Stack: 4097, Locals: -1})
	add(rank+1, api.ErrModule, "a param that is not there", api.Routine{Params: []int{1, 6}, Locals: 2})
	add(rank+1, api.ErrModule, "a result that is not there", api.Routine{Results: []int{0}})
	add(rank+1, api.ErrModule, "few locals", api.Routine{Params: []int{1, 1}, Locals: 1})
	add(rank+1, api.ErrModule, "a low stack", api.Routine{Stack: -1})
	add(rank+1, api.ErrModule, "half an instruction", api.Routine{Code: []byte{4, 2}})
	add(rank+1, api.ErrModule, "a text that is not there", api.Routine{Code: []byte{4, 6, 255, 255}})
	add(rank+1, api.ErrModule, "a local that is not there", api.Routine{Locals: 3, Code: []byte{4, 8, 3, 0}})
	return list
}

// flaws are those of the module that base makes, in Check's order.
func flaws() []flaw {
	list := []flaw{
		{0, api.ErrLimit, "257 types", func(m *api.Module) { m.Types = append(m.Types, grows(257-len(m.Types))...) }},
		{0, api.ErrLimit, "32769 texts", func(m *api.Module) { m.Texts = append(m.Texts, make([]string, 32769-len(m.Texts))...) }},
		{0, api.ErrLimit, "257 functions", func(m *api.Module) { m.Funcs = append(m.Funcs, make([]api.Routine, 257-len(m.Funcs))...) }},
	}
	list = append(list, typeFlaws(1, 0)...)
	list = append(list, typeFlaws(3, 1)...)
	list = append(list,
		flaw{5, api.ErrLimit, "a long text", func(m *api.Module) { m.Texts[0] = long(65537) }},
		flaw{5, api.ErrLimit, "a long last text", func(m *api.Module) { m.Texts[len(m.Texts)-1] = long(65537) }})
	list = append(list, funcFlaws(6, 0)...)
	list = append(list, funcFlaws(8, 1)...)
	return append(list, flaw{10, api.ErrLimit, "a long module", func(m *api.Module) { m.Texts = slices.Insert(m.Texts, 1, slices.Repeat([]string{long(65536)}, 32)...) }})
}

// base is a module that may be, of two types, texts and functions.
func base() api.Module {
	return api.Module{Types: grows(2), Texts: []string{"a", "b"}, Funcs: make([]api.Routine, 2)}
}

func TestP13_1EachError(t *testing.T) {
	for _, x := range flaws() {
		m := base()
		x.make(&m)
		if err := isChecked(t, m); err != x.err {
			t.Errorf("%s: %d, want %d", x.name, err, x.err)
		}
	}
}

// Of two faults the one is told that stands first in Check's row.
func TestP13_1WhichOfTwo(t *testing.T) {
	list := flaws()
	for _, x := range list {
		for _, y := range list {
			if x.rank >= y.rank || x.err == y.err {
				continue
			}
			m := base()
			y.make(&m) // the later one ahead, so that it can't take away what the other is wrong by
			x.make(&m)
			b, err := Encode(m)
			if got := Check(m); got != x.err || err != got || len(b) > 0 {
				t.Errorf("%s, and %s: %d, %d, want %d", x.name, y.name, got, err, x.err)
			}
		}
	}
}

// Each limit at its number, and one beyond.
func TestP13_1Limits(t *testing.T) {
	ofType := func(x api.Type) api.Module { return api.Module{Types: []api.Type{x}} }
	ofFunc := func(f api.Routine) api.Module { return api.Module{Funcs: []api.Routine{f}} }
	for _, x := range []struct {
		name  string
		limit int
		make  func(n int) api.Module
	}{
		{"types", 256, func(n int) api.Module { return api.Module{Types: grows(n)} }},
		{"texts", 32768, func(n int) api.Module { return api.Module{Texts: make([]string, n)} }},
		{"functions", 256, func(n int) api.Module { return api.Module{Funcs: make([]api.Routine, n)} }},
		{"fields", 32, func(n int) api.Module { return ofType(api.Type{Kind: api.Record, Fields: fields(n)}) }},
		{"a type's name", 65536, func(n int) api.Module { return ofType(api.Type{Kind: api.Record, Name: long(n)}) }},
		{"a field's name", 65536, func(n int) api.Module {
			return ofType(api.Type{Kind: api.Record, Fields: append(fields(31), api.Field{Name: long(n), Type: 5})})
		}},
		{"a text", 65536, func(n int) api.Module { return api.Module{Texts: []string{"", long(n)}} }},
		{"params", 32, func(n int) api.Module { return ofFunc(api.Routine{Params: ints(5, n), Locals: n}) }},
		{"results", 8, func(n int) api.Module { return ofFunc(api.Routine{Results: ints(5, n)}) }},
		{"locals", 256, func(n int) api.Module { return ofFunc(api.Routine{Locals: n}) }},
		{"code", 65536, func(n int) api.Module { return ofFunc(api.Routine{Code: trues(n)}) }},
		{"a function's name", 65536, func(n int) api.Module { return ofFunc(api.Routine{Name: long(n)}) }},
		{"stack", 4096, func(n int) api.Module { return ofFunc(api.Routine{Stack: n}) }},
	} {
		for n, want := range map[int]api.Errno{0: api.OK, x.limit - 1: api.OK, x.limit: api.OK, x.limit + 1: api.ErrLimit, 2 * x.limit: api.ErrLimit} {
			if err := isChecked(t, x.make(n)); err != want {
				t.Errorf("%s: %d of them: %d, want %d", x.name, n, err, want)
			}
		}
	}
}

// ofSize makes a module of just so many bytes, 65536 or more.
func ofSize(t *testing.T, size int) api.Module {
	t.Helper()
	var m api.Module
	for range (size - 40000) / 65539 {
		m.Texts = append(m.Texts, long(65536)) // 3 bytes more tell how long each is
	}
	rest := size - len(wrap(plainBody(m)))
	m.Texts = append(m.Texts, long(rest-3), "")
	for n := rest - 8; n <= rest; n++ {
		m.Texts[len(m.Texts)-2] = long(n)
		if len(wrap(plainBody(m))) == size {
			return m
		}
	}
	t.Fatalf("no module of %d bytes", size)
	return m
}

// The module's bytes in all, ahead and behind the body counted.
func TestP13_1Image(t *testing.T) {
	for size, want := range map[int]api.Errno{2097151: api.OK, 2097152: api.OK, 2097153: api.ErrLimit, 2097160: api.ErrLimit, 2097164: api.ErrLimit, 3000000: api.ErrLimit} {
		m := ofSize(t, size)
		if err := isChecked(t, m); err != want {
			t.Errorf("a module of %d bytes: %d, want %d", size, err, want)
		}
		m.Texts = append(m.Texts[1:], m.Texts[0]) // another one is the last that has room, or has none
		if err := isChecked(t, m); err != want {
			t.Errorf("a module of %d bytes, in another order: %d, want %d", size, err, want)
		}
	}
}

// Modules that are far too long, though little of the memory is: names, codes and texts that are one.
func TestP13_1Huge(t *testing.T) {
	text, body := long(65536), slices.Repeat([]byte{3, 0, 0, 0, 0, 0, 0, 0, 0}, 911)
	for _, m := range []api.Module{
		{Texts: slices.Repeat([]string{text}, 32768)},
		{Funcs: slices.Repeat([]api.Routine{{Name: text}}, 256)},
		{Funcs: slices.Repeat([]api.Routine{{Code: body}}, 256)},
		{Types: slices.Repeat([]api.Type{{Kind: api.Record, Name: text, Fields: slices.Repeat([]api.Field{{Name: text, Type: 1}}, 32)}}, 256)},
	} {
		if err := Check(m); err != api.ErrLimit {
			t.Errorf("Check = %d", err)
		}
		if b, err := Encode(m); err != api.ErrLimit || len(b) > 0 {
			t.Errorf("Encode = %d bytes, %d", len(b), err)
		}
	}
}

// Types of each Kind with all else at the ends of what may be.
func TestP13_1Types(t *testing.T) {
	numbers := []int{math.MinInt, -65536, -1, 0, 1, 2, 3, 4, 5, 6, 7, 15, 16, 17, 18, 19, 65535, 65536, 65537, 1 << 31, 1<<32 + 1, math.MaxInt}
	lists := [][]api.Field{nil, {}, {{Name: "a", Type: 5}}, {{Type: 16}, {Type: 18}}, {{Type: 1}, {Type: 19}}, {{Type: 0}}, {{Type: -1}}, {{Type: 6}}, {{Type: math.MaxInt}}}
	ended := map[api.Errno]int{}
	for kind := range 256 {
		for _, elem := range numbers {
			for _, length := range numbers {
				for i, l := range lists {
					x := api.Type{Kind: uint8(kind), Elem: elem, Len: length, Fields: l, Name: []string{"", "n"}[i%2]}
					m := api.Module{Types: []api.Type{{Kind: api.Record}, x, {Kind: api.Grow, Elem: 17}}}
					if kind > 9 && kind < 255 && elem != 1 {
						continue
					}
					ended[isChecked(t, m)]++
				}
			}
		}
	}
	if ended[api.OK] < 100 || ended[api.ErrModule] < 5000 || len(ended) != 2 {
		t.Errorf("ended so often: %v", ended)
	}
}

// The same, written out.
func TestP13_1TypesThatMayBe(t *testing.T) {
	of := func(typ int) []api.Field { return []api.Field{{Type: typ}} }
	for _, x := range []struct {
		x  api.Type
		ok bool
	}{
		{api.Type{Kind: api.Record}, true}, {api.Type{Kind: api.Record, Name: "while 1\x00\xff", Fields: append(of(16), of(16)...)}, true},
		{api.Type{Kind: api.Record, Fields: []api.Field{{Name: "a", Type: 1}, {Name: "a", Type: 5}}}, true},
		{api.Type{Kind: api.Record, Elem: 1}, false}, {api.Type{Kind: api.Record, Len: 1}, false}, {api.Type{Kind: api.Record, Len: -1}, false},
		{api.Type{Kind: api.Record, Fields: of(0)}, false}, {api.Type{Kind: api.Record, Fields: of(6)}, false}, {api.Type{Kind: api.Record, Fields: of(15)}, false},
		{api.Type{Kind: api.Record, Fields: of(17)}, false}, {api.Type{Kind: api.Record, Fields: of(-1)}, false},
		{api.Type{Kind: api.Fixed, Elem: 5}, true}, {api.Type{Kind: api.Fixed, Elem: 16, Len: 65536}, true}, {api.Type{Kind: api.Fixed, Elem: 16, Len: 65537}, false},
		{api.Type{Kind: api.Fixed, Elem: 16, Len: -1}, false}, {api.Type{Kind: api.Fixed, Elem: 0}, false}, {api.Type{Kind: api.Fixed, Elem: 17}, false},
		{api.Type{Kind: api.Fixed, Elem: 1, Name: "a"}, false}, {api.Type{Kind: api.Fixed, Elem: 1, Fields: of(1)}, false},
		{api.Type{Kind: api.Grow, Elem: 1}, true}, {api.Type{Kind: api.Grow, Elem: 16, Fields: []api.Field{}}, true}, {api.Type{Kind: api.Grow, Elem: 1, Len: 1}, false},
		{api.Type{Kind: api.Grow}, false}, {api.Type{Kind: api.Grow, Elem: 1, Name: "a"}, false}, {api.Type{Kind: api.Grow, Elem: 1, Fields: of(1)}, false},
		{api.Type{}, false}, {api.Type{Kind: api.I8}, false}, {api.Type{Kind: api.Text}, false}, {api.Type{Kind: 9, Elem: 1}, false}, {api.Type{Kind: 255}, false},
	} {
		want := api.ErrModule
		if x.ok {
			want = api.OK
		}
		if err := isChecked(t, api.Module{Types: []api.Type{x.x}}); err != want {
			t.Errorf("a type %v: %d, want %d", x.x, err, want)
		}
	}
}

// Functions with Params, Results, Locals and Stack at the ends, and one beyond.
func TestP13_1Funcs(t *testing.T) {
	numbers := []int{math.MinInt, -1, 0, 1, 2, 3, 31, 32, 33, 255, 256, 257, 4095, 4096, 4097, 1 << 32, math.MaxInt}
	lists := [][]int{nil, {}, {1}, {5, 16}, {17, 17}, {18}, {0}, {6}, {15}, {-1}, {math.MaxInt}, {math.MinInt}, ints(2, 8), ints(2, 9), ints(16, 32), ints(16, 33)}
	ended := map[api.Errno]int{}
	for _, params := range lists {
		for _, results := range lists {
			for _, n := range numbers {
				for _, f := range []api.Routine{{Locals: n}, {Locals: n, Stack: 4096}, {Locals: n, Stack: 4097}, {Locals: 32, Stack: n}, {Locals: 1, Stack: n}} {
					f.Params, f.Results = params, results
					ended[isChecked(t, api.Module{Types: grows(2), Funcs: []api.Routine{{}, f}})]++
				}
			}
		}
	}
	for _, err := range []api.Errno{api.OK, api.ErrModule, api.ErrLimit} {
		if ended[err] < 500 {
			t.Errorf("error %d came %d times", err, ended[err])
		}
	}
}

// Codes that may and may not be in the module sample makes, of three locals.
func TestP13_1Codes(t *testing.T) {
	one := func(op uint8, a, b int64) []byte { return instrs(api.Instr{Op: op, A: a, B: b}) }
	for _, x := range []struct {
		name string
		code []byte
		err  api.Errno
	}{
		{"none", nil, api.OK}, {"a return", one(api.OpReturn, 0, 0), api.OK}, {"no Op", []byte{0}, api.ErrModule}, {"no Op behind others", []byte{4, 4, 53}, api.ErrModule},
		{"an i64 that ends", []byte{3, 0, 0, 0, 0, 0, 0, 0}, api.ErrModule}, {"a width that is none", []byte{11, 4}, api.ErrModule}, {"a switch that ends", []byte{49, 1, 1, 0}, api.ErrModule},
		{"get 2", one(api.OpGet, 2, 0), api.OK}, {"get 3", one(api.OpGet, 3, 0), api.ErrModule}, {"get 65535", one(api.OpGet, 65535, 0), api.ErrModule},
		{"put 2", one(api.OpPut, 2, 0), api.OK}, {"put 3", one(api.OpPut, 3, 0), api.ErrModule}, {"put 3 behind put 2", append(one(api.OpPut, 2, 0), one(api.OpPut, 3, 0)...), api.ErrModule},
		{"text 1", one(api.OpText, 1, 0), api.OK}, {"text 2", one(api.OpText, 2, 0), api.ErrModule}, {"text 3", one(api.OpText, 3, 0), api.ErrModule},
		{"call 2", one(api.OpCall, 2, 0), api.OK}, {"call 3", one(api.OpCall, 3, 0), api.ErrModule},
		{"new 16", one(api.OpNew, 16, 0), api.OK}, {"new 19", one(api.OpNew, 19, 0), api.OK}, {"new 17", one(api.OpNew, 17, 0), api.ErrModule}, {"new 20", one(api.OpNew, 20, 0), api.ErrModule},
		{"field 16 1", one(api.OpField, 16, 1), api.OK}, {"field 16 2", one(api.OpField, 16, 2), api.ErrModule}, {"setfield 19 0", one(api.OpSetField, 19, 0), api.ErrModule},
		{"fill 18", one(api.OpFill, 18, 0), api.OK}, {"fill 17", one(api.OpFill, 17, 0), api.ErrModule}, {"push 17", one(api.OpPush, 17, 0), api.OK}, {"push 18", one(api.OpPush, 18, 0), api.ErrModule},
		{"len 18", one(api.OpLen, 18, 0), api.OK}, {"len 5", one(api.OpLen, 5, 0), api.ErrModule},
		{"a jump to nowhere", one(api.OpJump, 1<<32-1, 0), api.OK}, {"a pop of nothing", one(api.OpPop, 0, 0), api.OK},
	} {
		m := sample()
		m.Funcs[0].Code = x.code
		if err := isChecked(t, m); err != x.err {
			t.Errorf("%s: %d, want %d", x.name, err, x.err)
		}
	}
}

// spoilModule puts something into a module that it may not have, or may.
func spoilModule(r *rand.Rand, m *api.Module) {
	n := []int{-1, 0, 1, 5, 6, 15, 16, 17, 20, 256, 257, 4096, 4097, 65536, 65537, math.MaxInt, math.MinInt}[r.Intn(17)]
	if len(m.Types) > 0 && r.Intn(2) == 0 {
		x := &m.Types[r.Intn(len(m.Types))]
		switch r.Intn(5) {
		case 0:
			x.Kind = uint8(r.Intn(11))
		case 1:
			x.Elem = n
		case 2:
			x.Len = n
		case 3:
			x.Name = anyName(r)
		case 4:
			x.Fields = append(x.Fields, api.Field{Type: n})
		}
	}
	if len(m.Funcs) == 0 {
		return
	}
	f := &m.Funcs[r.Intn(len(m.Funcs))]
	switch r.Intn(6) {
	case 0:
		f.Params = append(f.Params, n)
	case 1:
		f.Results = append(f.Results, n)
	case 2:
		f.Locals = n
	case 3:
		f.Stack = n
	case 4:
		f.Code = append(f.Code, byte(r.Intn(54)), byte(r.Intn(20)), byte(r.Intn(2)))
	case 5:
		f.Code = f.Code[:r.Intn(len(f.Code)+1)]
	}
}

func TestP13_1AnyModule(t *testing.T) {
	r := rand.New(rand.NewSource(131))
	ended := map[api.Errno]int{}
	for range 20000 {
		m := anyModule(r)
		if isChecked(t, m) != api.OK {
			t.Fatalf("made to be one that may be: %v", m)
		}
		for range 1 + r.Intn(3) {
			spoilModule(r, &m)
		}
		ended[isChecked(t, m)]++
	}
	for _, err := range []api.Errno{api.OK, api.ErrModule, api.ErrLimit} {
		if ended[err] < 1000 {
			t.Errorf("error %d came %d times", err, ended[err])
		}
	}
}
