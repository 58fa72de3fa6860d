package asm

import (
	"fmt"
	"math/rand"
	"slices"
	"strings"
	"testing"

	"trammel/api"
	"trammel/image"
	"trammel/ops"
)

// behind tells, as the chapter's 12 table does, how many numbers stand behind the Ops 1 to 52, but for a switch's arms.
const behind = "i8 1 i32 1 i64 1 true 0 false 0 text 1 get 1 put 1 pop 0 dup 0 add 1 sub 1 mul 1 div 1 rem 1 and 1 or 1 xor 1 shl 1 shr 1 " +
	"neg 1 not 1 eq 1 ne 1 lt 1 le 1 gt 1 ge 1 conv 2 flip 0 cat 0 size 0 charat 0 cut 0 byte 0 new 1 field 2 setfield 2 fill 1 empty 1 " +
	"at 1 setat 1 len 1 push 1 drop 1 jump 1 unless 1 when 1 switch 2 call 1 return 0 trap 1"

// names and counts are what behind tells, by Ops.
var names, counts = rows(behind)

func rows(s string) ([]string, []int) {
	names, counts := []string{""}, []int{0}
	for i, w := range strings.Fields(s) {
		if i%2 == 0 {
			names = append(names, w)
		} else {
			counts = append(counts, int(w[0]-'0'))
		}
	}
	return names, counts
}

// short tells a text for a message, cut where it is long.
func short(s string) string {
	if len(s) > 600 {
		return fmt.Sprintf("%q .. %q (%d bytes)", s[:300], s[len(s)-300:], len(s))
	}
	return fmt.Sprintf("%q", s)
}

// reads holds Parse to a module that is wanted.
func reads(t *testing.T, s string, want api.Module) {
	t.Helper()
	m, at, err := Parse(s)
	if !image.Same(m, want) || at != 0 || err != api.OK {
		t.Errorf("Parse(%s) = %.500v, %d, %d, want %.500v", short(s), fmt.Sprint(m), at, err, fmt.Sprint(want))
	}
}

// refused holds Parse to an error that is wanted.
func refused(t *testing.T, s string, place int, want api.Errno) {
	t.Helper()
	m, at, err := Parse(s)
	if !image.Same(m, api.Module{}) || at != place || err != want {
		t.Errorf("Parse(%s) = %.500v, %d, %d, want %d at %d", short(s), fmt.Sprint(m), at, err, want, place)
	}
}

// wrong holds Parse to ErrAsm, at the @ that stands in each of the texts, and is no part of them.
func wrong(t *testing.T, texts ...string) {
	t.Helper()
	for _, s := range texts {
		left, right, ok := strings.Cut(s, "@")
		if !ok {
			t.Fatalf("no place is marked in %s", short(s))
		}
		refused(t, left+right, len(left), api.ErrAsm)
	}
}

// inFunc puts lines into a function, and inFuncOf makes the module that they are read as.
func inFunc(lines ...string) string {
	return "func \"f\" 9 9\nparams\nresults\n" + strings.Join(lines, "\n") + "\nend\n"
}

func inFuncOf(list ...api.Instr) api.Module {
	f := api.Routine{Name: "f", Locals: 9, Stack: 9}
	for _, x := range list {
		b, err := ops.Encode(x)
		if err != api.OK {
			panic(x)
		}
		f.Code = append(f.Code, b...)
	}
	return api.Module{Funcs: []api.Routine{f}}
}

// rich is a module in which each Op can name something: a text, a function, a record of two fields, a fixed array and one that grows.
func rich() (string, api.Module) {
	s := "record \"P\" \"a\" 1 \"b\" 16\nfixed 5 3\ngrow 16\ntext \"t\"\n"
	return s, api.Module{Types: []api.Type{
		{Kind: api.Record, Name: "P", Fields: []api.Field{{Name: "a", Type: 1}, {Name: "b", Type: 16}}},
		{Kind: api.Fixed, Elem: 5, Len: 3},
		{Kind: api.Grow, Elem: 16},
	}, Texts: []string{"t"}}
}

// instructions tells lines of the function of a rich module, each Op among them, and what they are read as.
func instructions() ([]string, []api.Instr) {
	var lines []string
	var list []api.Instr
	put := func(line string, op uint8, a, b int64, arms ...api.Arm) {
		lines = append(lines, line)
		list = append(list, api.Instr{Op: op, A: a, B: b, Arms: arms})
	}
	put("i8 -128", api.OpI8, -128, 0)
	put("i8 127", api.OpI8, 127, 0)
	put("i32 -2147483648", api.OpI32, -1<<31, 0)
	put("i32 2147483647", api.OpI32, 1<<31-1, 0)
	put("i64 -9223372036854775808", api.OpI64, -1<<63, 0)
	put("i64 9223372036854775807", api.OpI64, 1<<63-1, 0)
	put("text 0", api.OpText, 0, 0)
	put("get 8", api.OpGet, 8, 0)
	put("put 0", api.OpPut, 0, 0)
	for op := api.OpAdd; op <= api.OpGe; op++ {
		put(names[op]+" 3", op, 3, 0)
	}
	put("eq 5", api.OpEq, 5, 0)
	put("ne 4", api.OpNe, 4, 0)
	put("conv 1 3", api.OpConv, 1, 3)
	put("conv 2 1", api.OpConv, 2, 1)
	put("new 16", api.OpNew, 16, 0)
	put("field 16 1", api.OpField, 16, 1)
	put("setfield 16 0", api.OpSetField, 16, 0)
	put("fill 17", api.OpFill, 17, 0)
	put("empty 18", api.OpEmpty, 18, 0)
	put("at 17", api.OpAt, 17, 0)
	put("setat 18", api.OpSetAt, 18, 0)
	put("len 18", api.OpLen, 18, 0)
	put("push 18", api.OpPush, 18, 0)
	put("drop 18", api.OpDrop, 18, 0)
	put("jump 0", api.OpJump, 0, 0)
	put("unless 4294967295", api.OpUnless, 1<<32-1, 0)
	put("when 7", api.OpWhen, 7, 0)
	put("switch 1 else 300", api.OpSwitch, 1, 300)
	put("switch 1 5:0 -128:4294967295 127:9 else 0", api.OpSwitch, 1, 0, api.Arm{Value: 5}, api.Arm{Value: -128, To: 1<<32 - 1}, api.Arm{Value: 127, To: 9})
	put("switch 3 -9223372036854775808:1 else 4294967295", api.OpSwitch, 3, 1<<32-1, api.Arm{Value: -1 << 63, To: 1})
	put("call 0", api.OpCall, 0, 0)
	put("trap 0", api.OpTrap, 0, 0)
	put("trap 255", api.OpTrap, 255, 0)
	for op, n := range counts {
		if op > 0 && n == 0 {
			put(names[op], uint8(op), 0, 0)
		}
	}
	return lines, list
}

// richFunc is the rich module with all instructions in its function.
func richFunc() (string, api.Module) {
	lines, list := instructions()
	s, m := rich()
	m.Funcs = inFuncOf(list...).Funcs
	return s + inFunc(lines...), m
}

// printed holds Print to a text that is wanted.
func printed(t *testing.T, m api.Module, want string) {
	t.Helper()
	if s, err := Print(m); s != want || err != api.OK {
		t.Errorf("Print(%.500v) = %s, %d, want %s", fmt.Sprint(m), short(s), err, short(want))
	}
}

// Modules made at will.

func anyName(r *rand.Rand) string {
	b := make([]byte, r.Intn(5))
	for i := range b {
		b[i] = byte(r.Intn(256))
		if r.Intn(2) == 0 {
			b[i] = "\"\\; \n\tab"[r.Intn(8)]
		}
	}
	return string(b)
}

func anyTypes(r *rand.Rand, types, most int) []int {
	var list []int
	for range r.Intn(most + 1) {
		list = append(list, anyTypeNumber(r, types))
	}
	return list
}

func anyTypeNumber(r *rand.Rand, types int) int {
	if types == 0 || r.Intn(2) == 0 {
		return 1 + r.Intn(5)
	}
	return 16 + r.Intn(types)
}

func anyType(r *rand.Rand, types int) api.Type {
	switch r.Intn(3) {
	case 0:
		x := api.Type{Kind: api.Record, Name: anyName(r)}
		for _, typ := range anyTypes(r, types, 4) {
			x.Fields = append(x.Fields, api.Field{Name: anyName(r), Type: typ})
		}
		return x
	case 1:
		return api.Type{Kind: api.Fixed, Elem: anyTypeNumber(r, types), Len: []int{0, 1, 10, 65536}[r.Intn(4)]}
	}
	return api.Type{Kind: api.Grow, Elem: anyTypeNumber(r, types)}
}

// anyInstr draws numbers till they are an instruction that may stand in a function of the module.
func anyInstr(r *rand.Rand, locals int, m api.Module) api.Instr {
	for {
		x := api.Instr{Op: uint8(1 + r.Intn(52)), A: int64(r.Intn(24)), B: int64(r.Intn(3))}
		if r.Intn(2) == 0 {
			x.B = 0
		}
		if x.Op <= api.OpI64 {
			x.A = int64(r.Uint64()) >> (64 - []int{8, 32, 64}[x.Op-1])
		}
		if x.Op == api.OpSwitch {
			x.A = int64(1 + r.Intn(3))
			for range r.Intn(4) {
				x.Arms = append(x.Arms, api.Arm{Value: int64(r.Uint64()) >> (64 - []int{8, 32, 64}[x.A-1]), To: r.Intn(99)})
			}
		}
		_, _, err := ops.Takes(x, m)
		if err == api.OK && (x.Op != api.OpGet && x.Op != api.OpPut || x.A < int64(locals)) {
			return x
		}
	}
}

func anyModule(r *rand.Rand) api.Module {
	var m api.Module
	types := r.Intn(5)
	for range types {
		m.Types = append(m.Types, anyType(r, types))
	}
	for range r.Intn(4) {
		m.Texts = append(m.Texts, anyName(r))
	}
	for range r.Intn(4) {
		f := api.Routine{Name: anyName(r), Params: anyTypes(r, types, 4), Results: anyTypes(r, types, 3), Stack: r.Intn(4097)}
		f.Locals = len(f.Params) + r.Intn(200)
		m.Funcs = append(m.Funcs, f)
	}
	for i := range m.Funcs {
		for range r.Intn(10) {
			b, _ := ops.Encode(anyInstr(r, m.Funcs[i].Locals, m))
			m.Funcs[i].Code = append(m.Funcs[i].Code, b...)
		}
	}
	return m
}

// The names that the tests write out are those of ops, so that none of them is left out.
func TestNamesAreOps(t *testing.T) {
	if n := len(names); n != 53 || len(counts) != n {
		t.Fatalf("%d names, %d counts", n, len(counts))
	}
	for op, s := range names {
		if ops.Name(uint8(op)) != s {
			t.Errorf("Op %d is %q, not %q", op, ops.Name(uint8(op)), s)
		}
	}
	_, list := instructions()
	for op := 1; op <= 52; op++ {
		if !slices.ContainsFunc(list, func(x api.Instr) bool { return int(x.Op) == op }) {
			t.Errorf("no instruction has the Op %d", op)
		}
	}
}
