package lower

import (
	"fmt"
	"slices"
	"testing"

	"trammel/api"
	"trammel/linear"
	"trammel/ops"
)

func TestP16_1_2_3AtWill(t *testing.T) {
	atWill(t, 161, 1000, func(m *maker, p api.Program) { asPlain(t, p) })
}

// moduleOf tells a module that has what instructions of a program's functions may name.
func moduleOf(p api.Program) api.Module {
	texts, _ := Texts(p)
	m := api.Module{Types: p.Types, Texts: texts}
	for _, f := range p.Funcs {
		m.Funcs = append(m.Funcs, api.Routine{Name: f.Name, Params: f.Params, Results: f.Results})
	}
	return m
}

func terms(t api.Term) int {
	count := 1
	for _, kid := range t.Kids {
		count += terms(kid)
	}
	return count
}

// What Func tells may be, is normal, names what is there, and is not too long.
func TestP16_4Lines(t *testing.T) {
	seen := map[uint8]int{}
	atWill(t, 162, 1200, func(m *maker, p api.Program) {
		module := moduleOf(p)
		for i, f := range p.Funcs {
			l, _ := Func(p, i)
			normal, wrong := linear.Normal(l)
			if linear.Check(l) != api.OK || wrong != api.OK || !linear.Same(normal, l) {
				t.Fatalf("function %d of %s: %s is not normal, %d", i, short(p), short(l), wrong)
			}
			size := 0
			for _, x := range l {
				seen[x.X.Op]++
				if _, _, wrong := ops.Takes(x.X, module); x.X.Op != 0 && wrong != api.OK {
					t.Fatalf("function %d of %s: %v names what is not there: %d", i, short(p), x.X, wrong)
				}
				if slot := x.X.Op == api.OpGet || x.X.Op == api.OpPut; slot && x.X.A >= int64(len(f.Slots)) {
					t.Fatalf("function %d of %s: %v names no slot", i, short(p), x.X)
				}
				code, _ := ops.Encode(x.X)
				size += len(code)
			}
			if got, wrong := Size(p, i); wrong != api.OK || got != size || got > api.CodePerNode*terms(f.Body)+48 {
				t.Fatalf("function %d of %s: size %d, %d, want %d of %d terms", i, short(p), got, wrong, size, terms(f.Body))
			}
			if code, wrong := linear.Code(l); wrong == api.OK && len(code) != size {
				t.Fatalf("function %d of %s: a code of %d bytes, size %d", i, short(p), len(code), size)
			}
		}
	})
	for op := api.OpI8; op <= api.OpTrap; op++ {
		if seen[op] < 20 {
			t.Errorf("%s: seen %d times", ops.Name(op), seen[op])
		}
	}
}

// stacker goes over the lines of a function, and holds what each instruction finds on the stack to what it takes.
type stacker struct {
	t      *testing.T
	f      api.Func
	module api.Module
	labels map[int64][]int
	stack  []int
	come   bool
}

// reach comes to a label with the stack that there is.
func (s *stacker) reach(label int64) {
	if old, ok := s.labels[label]; ok && !slices.Equal(old, s.stack) {
		s.t.Fatalf("%s: L%d is come to with %v and with %v", short(s.f), label, old, s.stack)
	}
	s.labels[label] = slices.Clone(s.stack)
}

// take takes what must lie topmost; 0 is any type.
func (s *stacker) take(x api.Instr, types ...int) {
	for _, typ := range slices.Backward(types) {
		last := len(s.stack) - 1
		if last < 0 || typ != 0 && s.stack[last] != typ {
			s.t.Fatalf("%s: %s takes %v of %v", short(s.f), ops.Name(x.Op), types, s.stack)
		}
		s.stack = s.stack[:last]
	}
}

func (s *stacker) do(x api.Instr) {
	takes, puts, _ := ops.Takes(x, s.module)
	switch x.Op {
	case api.OpGet:
		puts = []int{s.f.Slots[x.A]}
	case api.OpPut:
		takes = []int{s.f.Slots[x.A]}
	case api.OpDup:
		top := s.stack[len(s.stack)-1]
		puts = []int{top, top}
	case api.OpReturn:
		takes = s.f.Results
	}
	s.take(x, takes...)
	s.stack = append(s.stack, puts...)
	for _, to := range linear.Targets(x) {
		s.reach(to)
	}
	if x.Op == api.OpReturn && len(s.stack) > 0 {
		s.t.Fatalf("%s: %v lies under the results", short(s.f), s.stack)
	}
	switch x.Op {
	case api.OpJump, api.OpSwitch, api.OpReturn, api.OpTrap:
		s.stack, s.come = nil, false
	}
}

func (s *stacker) line(x api.Line) {
	if x.X.Op != 0 {
		s.do(x.X)
		return
	}
	known, ahead := s.labels[int64(x.Label)]
	if s.come {
		s.reach(int64(x.Label))
	} else if ahead {
		s.stack = slices.Clone(known)
	}
	s.come = true
}

// Each instruction finds on the stack what it takes, whichever way it is come to; between statements nothing lies there.
func TestP16_4Stack(t *testing.T) {
	atWill(t, 163, 600, func(m *maker, p api.Program) {
		for i, f := range p.Funcs {
			l, _ := Func(p, i)
			s := &stacker{t: t, f: f, module: moduleOf(p), labels: map[int64][]int{}, come: true}
			for _, x := range l {
				s.line(x)
			}
		}
	})
}

// A function behind a program changes no lines, nor do other names, or types that no line names.
func TestP16_4Behind(t *testing.T) {
	atWill(t, 164, 400, func(m *maker, p api.Program) {
		more := p
		more.Funcs = append(slices.Clone(p.Funcs), api.Func{Name: "more", Results: []int{api.Text}, Body: term(api.SBlock, term(api.SReturn, valued(api.XAdd, api.Text, text("z"), text(""))))})
		more.Types = append(slices.Clone(p.Types), api.Type{Kind: api.Grow, Elem: typeE})
		for i := range more.Funcs {
			more.Funcs[i].Name = fmt.Sprint("n", len(more.Funcs)-i)
			more.Funcs[i].Nodes = i
		}
		more.Types[0].Name, more.Types[1].Name = "Q", "P"
		texts, _ := Texts(p)
		if list, wrong := Texts(more); wrong != api.OK || !slices.Equal(list[:len(texts)], texts) {
			t.Fatalf("%s: texts %q, %d, with more behind %q", short(p), texts, wrong, list)
		}
		sameLines(t, p, more)
	})
}

// sameLines holds the functions of a program to those of another one that stand at their places.
func sameLines(t *testing.T, p, other api.Program) {
	t.Helper()
	for i := range p.Funcs {
		want, _ := Func(p, i)
		l, wrong := Func(other, i)
		size, sizeWrong := Size(other, i)
		wantSize, _ := Size(p, i)
		if wrong != api.OK || !linear.Same(l, want) || size != wantSize || sizeWrong != api.OK {
			t.Fatalf("function %d of %s: %s, %d, in the other program %s", i, short(p), short(want), wrong, short(l))
		}
	}
}

// A function's lines hang on no other function's body, as long as the program has the same texts.
func TestP16_4Others(t *testing.T) {
	atWill(t, 165, 400, func(m *maker, p api.Program) {
		own := m.Intn(len(p.Funcs))
		other := api.Program{Types: p.Types, Funcs: slices.Clone(p.Funcs)}
		for i := range other.Funcs {
			if i != own {
				other.Funcs[i] = hollow(other.Funcs[i])
			}
		}
		want, _ := Func(p, own)
		if l, wrong := Func(other, own); wrong != api.OK || !linear.Same(l, want) {
			t.Fatalf("function %d of %s: %s, %d, among others %s", own, short(p), short(want), wrong, short(l))
		}
	})
}

// hollow tells a function that has nothing but the texts of one.
func hollow(f api.Func) api.Func {
	slot := int64(len(f.Slots))
	f.Slots = append(slices.Clone(f.Slots), api.Text)
	var list []api.Term
	for _, s := range plainTexts(api.Program{Funcs: []api.Func{f}}) {
		list = append(list, numbered(api.SPut, slot, text(s)))
	}
	f.Body = term(api.SBlock, append(list, numbered(api.STrap, 1))...)
	return f
}
