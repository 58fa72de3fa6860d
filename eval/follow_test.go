package eval

import (
	"fmt"
	"math"
	"math/rand"
	"regexp"
	"slices"
	"strings"
	"testing"

	"trammel/api"
)

// atWill calls f with runs of programs at will.
func atWill(t *testing.T, programs int, f func(m *author, source string, p api.Program, fn int, args []int64)) {
	for seed := range int64(programs) {
		m := newAuthor(seed)
		s := m.program()
		p := made(t, s)
		for fn := 0; fn < len(p.Funcs); fn += 2 {
			f(m, s, p, fn, m.args(p.Funcs[fn].Params))
		}
	}
}

// Programs at will are held to the second reading, and come to their end in all ways but those that take much room.
func TestP11_1_2AtWill(t *testing.T) {
	ends := map[string]int{}
	atWill(t, 700, func(m *author, _ string, p api.Program, fn int, args []int64) {
		a, wrong := asPlain(t, p, fn, args, 20000)
		ends[fmt.Sprint(wrong, a.Trap)]++
		if m.Intn(8) == 0 {
			asPlain(t, p, fn, args, int64(m.Intn(a.Steps+3)-1))
		}
	})
	for _, trap := range []int{api.TrapNone, api.TrapDiv, api.TrapIndex, api.TrapDepth, api.TrapByte, api.TrapEmpty, 100, 107, 355} {
		if ends[fmt.Sprint(api.OK, trap)] == 0 {
			t.Errorf("no run ended by %d: %v", trap, ends)
		}
	}
	if ends[fmt.Sprint(api.ErrFuel, 0)] == 0 || ends[fmt.Sprint(api.OK, 0)] < 300 {
		t.Errorf("too few runs of a kind: %v", ends)
	}
}

// More rules change nothing; a run that has no answer within some has none within fewer.
func TestP11_3Rules(t *testing.T) {
	atWill(t, 100, func(m *author, _ string, p api.Program, fn int, args []int64) {
		want, wrong := Run(p, fn, args, 3000)
		if wrong != api.OK {
			for _, rules := range []int64{2999, 1500, 10, 1, 0, -1} {
				told(t, p, fn, args, rules, api.Answer{}, 0, wrong)
			}
			return
		}
		words, _ := Heap(p, fn, args, 3000)
		steps := int64(want.Steps)
		for _, rules := range []int64{steps, steps + 1, 2 * steps, 1 << 31, math.MaxInt64 - 1, math.MaxInt64} {
			told(t, p, fn, args, rules, want, words, api.OK)
		}
		for rules := int64(-1); rules < steps; rules += 1 + steps/50 {
			told(t, p, fn, args, rules, api.Answer{}, 0, api.ErrFuel)
		}
	})
}

// calls tells which functions a function calls, and those call, it itself among them.
func calls(p api.Program, fn int) []bool {
	called := make([]bool, len(p.Funcs))
	var look func(t api.Term)
	visit := func(f int) {
		if !called[f] {
			called[f] = true
			look(p.Funcs[f].Body)
		}
	}
	look = func(t api.Term) {
		if t.Op == api.XCall {
			visit(int(t.N))
		}
		for _, k := range t.Kids {
			look(k)
		}
	}
	visit(fn)
	return called
}

// What a function answers hangs on it and on those that it calls alone: others may do something else, and more may stand behind.
func TestP11_3Others(t *testing.T) {
	spoilt := 0
	atWill(t, 200, func(m *author, s string, p api.Program, fn int, args []int64) {
		want, wrong := Run(p, fn, args, 3000)
		words, _ := Heap(p, fn, args, 3000)
		called := calls(p, fn)
		other := api.Program{Types: p.Types, Funcs: slices.Clone(p.Funcs)}
		for f := range other.Funcs {
			if !called[f] {
				other.Funcs[f].Body = term(api.SBlock, 0, 0, term(api.STrap, 0, 9))
				spoilt++
			}
		}
		told(t, other, fn, args, 3000, want, words, wrong)
		behind := made(t, s+newAuthor(m.Int63()).behind(len(p.Funcs)))
		told(t, behind, fn, args, 3000, want, words, wrong)
	})
	if spoilt < 100 {
		t.Errorf("only %d functions were not called", spoilt)
	}
}

// behind makes a function that stands behind so many, and calls them.
func (m *author) behind(count int) string {
	return fmt.Sprintf("fn more() { var l = new [][3][7]i32(); while len(l) < 5 { f%d_(); } } fn f%d_() { }", count, count)
}

// Functions, and records, may stand in any order.
func TestP11_3Order(t *testing.T) {
	atWill(t, 150, func(m *author, s string, p api.Program, fn int, args []int64) {
		want, wrong := Run(p, fn, args, 3000)
		words, _ := Heap(p, fn, args, 3000)
		lines := strings.Split(strings.TrimSuffix(s, "\n"), "\n")
		m.Shuffle(len(lines), func(i, j int) { lines[i], lines[j] = lines[j], lines[i] })
		moved := made(t, strings.Join(lines, "\n"))
		at := slices.IndexFunc(moved.Funcs, func(f api.Func) bool { return f.Name == p.Funcs[fn].Name })
		told(t, moved, at, args, 3000, want, words, wrong)
	})
}

// Other names of locals, labels, functions, records and fields change nothing.
func TestP11_3Names(t *testing.T) {
	names := regexp.MustCompile(`"(?:[^"\\]|\\.)*"|\b(?:[abcd][0-9]+|L[0-9]+|f[0-9]+|[PQR]|[xytplng])\b`)
	atWill(t, 150, func(m *author, s string, p api.Program, fn int, args []int64) {
		want, wrong := Run(p, fn, args, 3000)
		words, _ := Heap(p, fn, args, 3000)
		tail := fmt.Sprintf("_%d", m.Intn(1000))
		s = names.ReplaceAllStringFunc(s, func(name string) string {
			if name[0] == '"' {
				return name
			}
			return "z" + name + tail
		})
		told(t, made(t, s), fn, args, 3000, want, words, wrong)
		other := api.Program{Types: p.Types, Funcs: slices.Clone(p.Funcs)}
		for f := range other.Funcs {
			other.Funcs[f].Name = fmt.Sprintf("n%d", len(p.Funcs)-f)
			other.Funcs[f].Nodes = m.Intn(100)
		}
		told(t, other, fn, args, 3000, want, words, wrong)
	})
}

func FuzzRun(f *testing.F) {
	f.Add(int64(1), int64(1000))
	f.Add(int64(2), int64(-1))
	f.Fuzz(func(t *testing.T, seed, rules int64) {
		m := newAuthor(seed)
		p := made(t, m.program())
		r := rand.New(rand.NewSource(seed))
		for fn := 0; fn < len(p.Funcs); fn += 2 {
			args := m.args(p.Funcs[fn].Params)
			if r.Intn(4) == 0 {
				args = append(args, 0)
			}
			asPlain(t, p, fn, args, min(rules, 30000))
		}
	})
}
