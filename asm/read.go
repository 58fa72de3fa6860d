package asm

import (
	"strings"

	"trammel/api"
	"trammel/ops"
)

// part is a part of a module's text: which lines may stand there.
type part uint8

const (
	outside      part = iota // of functions
	wantsParams              // behind func
	wantsResults             // behind params
	inside                   // a function, up to its end
)

// reader puts a module together out of the lines of its text.
type reader struct {
	line
	first   int // the place of the line's first word
	part    part
	routine api.Routine // the function that is begun
	module  api.Module
}

// form is a kind of line: its first word, the part in which it may stand, how what stands behind the word is read.
type form struct {
	name string
	part part
	read func(r *reader)
}

func forms() []form {
	list := []form{
		{"record", outside, (*reader).record},
		{"fixed", outside, (*reader).fixed},
		{"grow", outside, (*reader).grow},
		{"text", outside, (*reader).constant},
		{"func", outside, (*reader).begin},
		{"params", wantsParams, (*reader).params},
		{"results", wantsResults, (*reader).results},
		{"end", inside, (*reader).end},
	}
	for op := uint8(1); ops.Name(op) != ""; op++ {
		list = append(list, form{ops.Name(op), inside, instrForm(op)})
	}
	return list
}

// read reads a whole text; false: the place of what is wrong.
func (r *reader) read(s string) (int, bool) {
	all := forms()
next:
	for l := range lines(s) {
		r.line = l
		if !r.more() {
			continue
		}
		r.first = r.at
		word := r.peek()
		for _, f := range all {
			if f.part != r.part || f.name != word {
				continue
			}
			r.word(word)
			f.read(r)
			r.close()
			if r.failed {
				return r.fault, false
			}
			continue next
		}
		r.refuse()
		return r.fault, false
	}
	if r.part != outside {
		return len(s), false
	}
	return 0, true
}

// keep puts things behind a list, unless that is past its limit: a text may tell far more than a module may have, and one too many tells
// that as well.
func keep[T any](list []T, limit int, x ...T) []T {
	if len(list) > limit {
		return list
	}
	return append(list, x...)
}

func (r *reader) record() {
	x := api.Type{Kind: api.Record, Name: r.str()}
	for r.more() {
		f := api.Field{Name: r.str()}
		f.Type = int(r.number())
		x.Fields = keep(x.Fields, api.MaxFields, f)
	}
	r.typ(x)
}

func (r *reader) fixed() {
	x := api.Type{Kind: api.Fixed, Elem: int(r.number())}
	x.Len = int(r.number())
	r.typ(x)
}

func (r *reader) grow() { r.typ(api.Type{Kind: api.Grow, Elem: int(r.number())}) }

func (r *reader) typ(x api.Type) { r.module.Types = keep(r.module.Types, api.MaxTypes, x) }

func (r *reader) constant() { r.module.Texts = keep(r.module.Texts, api.MaxTexts, r.str()) }

func (r *reader) begin() {
	r.routine = api.Routine{Name: r.str()}
	r.routine.Locals = int(r.number())
	r.routine.Stack = int(r.number())
	r.part = wantsParams
}

func (r *reader) params() {
	r.routine.Params = r.numbers(api.MaxParams)
	r.part = wantsResults
}

func (r *reader) results() {
	r.routine.Results = r.numbers(api.MaxResults)
	r.part = inside
}

func (r *reader) numbers(limit int) []int {
	var list []int
	for r.more() {
		list = keep(list, limit, int(r.number()))
	}
	return list
}

func (r *reader) end() {
	r.module.Funcs = keep(r.module.Funcs, api.MaxFuncs, r.routine)
	r.part = outside
}

// instrForm tells how the line of an Op is read.
func instrForm(op uint8) func(r *reader) {
	if op == api.OpSwitch {
		return (*reader).branch
	}
	count := numbersOf(op)
	return func(r *reader) {
		x := api.Instr{Op: op}
		if count > 0 {
			x.A = r.number()
		}
		if count > 1 {
			x.B = r.number()
		}
		r.instr(x)
	}
}

// numbersOf tells how many numbers stand behind an Op, but for a switch's arms. That is asked of ops, with 1, which each of them may be.
func numbersOf(op uint8) int {
	switch {
	case ops.Size(api.Instr{Op: op, A: 1, B: 1}) > 0:
		return 2
	case ops.Size(api.Instr{Op: op, A: 1}) > 0:
		return 1
	}
	return 0
}

func (r *reader) branch() {
	x := api.Instr{Op: api.OpSwitch, A: r.number()}
	for r.more() && r.peek() != "else" {
		x.Arms = keep(x.Arms, api.MaxCode, r.arm()) // so many are more than an instruction has
	}
	r.word(r.peek()) // else; at the line's end nothing, and then the number is wanting there as well
	x.B = r.number()
	r.instr(x)
}

func (r *reader) arm() api.Arm {
	word := r.peek()
	left, right, _ := strings.Cut(word, ":")
	value, ok := numberOf(left)
	to, also := numberOf(right)
	if !ok || !also {
		r.refuse()
	}
	r.word(word)
	return api.Arm{Value: value, To: int(to)}
}

// instr puts an instruction behind the function's code. Its words are asked first, that there is none too many included: whether it is one
// is asked of the whole.
func (r *reader) instr(x api.Instr) {
	r.close()
	code, err := ops.Encode(x)
	if err != api.OK {
		r.fail(r.first)
	}
	r.routine.Code = keep(r.routine.Code, api.MaxCode, code...)
}
