package check

import (
	"math"
	"slices"

	"trammel/api"
)

// visit goes through the terms of a function, each of which must be as the chapter tells.
type visit struct {
	rules
	around
	slots   []int // their types
	results []int
	known   []bool // by slots: may it be asked for?
	put     []int  // the slots that the open blocks made known, in their order
}

func newVisit(r rules, f api.Func) *visit {
	v := &visit{rules: r, slots: f.Slots, results: f.Results, known: make([]bool, len(f.Slots))}
	for slot := range f.Params {
		v.known[slot] = true
	}
	return v
}

// block: may this be an SBlock? What it makes known is so up to its end.
func (v *visit) block(t api.Term) bool {
	if t.Op != api.SBlock || !isPlain(t) {
		return false
	}
	ahead := len(v.put)
	for _, kid := range t.Kids {
		if !v.stmt(kid) {
			return false
		}
	}
	for _, slot := range v.put[ahead:] {
		v.known[slot] = false
	}
	v.put = v.put[:ahead]
	return true
}

// stmt: may this be a statement?
func (v *visit) stmt(t api.Term) bool {
	if !isPlain(t) {
		return false
	}
	switch t.Op {
	case api.SBlock:
		return v.block(t)
	case api.SIf:
		return len(t.Kids) == 3 && v.values(t.Kids[:1], api.Bool) && v.block(t.Kids[1]) && v.block(t.Kids[2])
	case api.SLoop:
		return len(t.Kids) == 3 && v.loop(t)
	case api.SSwitch:
		return len(t.Kids) >= 2 && v.choice(t)
	case api.SBreak:
		return len(t.Kids) == 0 && v.isAround(t.N, api.SLoop, api.SSwitch)
	case api.SNext:
		return len(t.Kids) == 0 && v.isAround(t.N, api.SLoop)
	case api.SReturn:
		return v.values(t.Kids, v.results...)
	case api.STrap:
		return len(t.Kids) == 0 && t.N >= 0 && t.N <= math.MaxUint8
	}
	return v.simple(t)
}

// isSimple: is it the kind of a statement that may stand behind each turn of a loop?
func isSimple(op uint8) bool {
	switch op {
	case api.SPut, api.SPuts, api.SField, api.SAt, api.SDo, api.SPush:
		return true
	}
	return false
}

// simple: may this be one of the statements of isSimple?
func (v *visit) simple(t api.Term) bool {
	switch t.Op {
	case api.SPut:
		if !v.isSlot(t.N) || !v.values(t.Kids, v.slots[t.N]) {
			return false
		}
		v.know(t.N)
		return true
	case api.SPuts:
		return len(t.Kids) >= 3 && v.puts(t.Kids[:len(t.Kids)-1], t.Kids[len(t.Kids)-1])
	case api.SField:
		return len(t.Kids) == 2 && v.putsInto(api.Term{Op: api.XField, N: t.N, Kids: t.Kids[:1]}, t.Kids[1])
	case api.SAt:
		return len(t.Kids) == 3 && t.Kids[0].Type != api.Text && v.putsInto(term(api.XAt, t.Kids[:2]...), t.Kids[2])
	case api.SDo:
		return len(t.Kids) == 1 && v.call(t.Kids[0])
	case api.SPush:
		return v.areValues(t.Kids...) && v.pushes(t.Kids...)
	}
	return false
}

// puts: may these be the parts of an SPuts, several slots and a call?
func (v *visit) puts(slots []api.Term, call api.Term) bool {
	var types []int
	for _, t := range slots {
		if t.Op != api.SSlot || !isPlain(t) || len(t.Kids) > 0 || !v.isSlot(t.N) {
			return false
		}
		types = append(types, v.slots[t.N])
	}
	if !v.call(call) || !slices.Equal(types, v.resultsOf(call.N)) {
		return false
	}
	for _, t := range slots {
		v.know(t.N)
	}
	return true
}

// putsInto: may a value be put there, where this term would get one?
func (v *visit) putsInto(place, value api.Term) bool {
	if !v.areValues(place.Kids...) || !v.areValues(value) {
		return false
	}
	typ, ok := v.typeOf(place)
	return ok && typ == value.Type
}

func (v *visit) isSlot(n int64) bool { return n >= 0 && n < int64(len(v.slots)) }

// know makes a slot known up to the end of the innermost block.
func (v *visit) know(slot int64) {
	if !v.known[slot] {
		v.known[slot] = true
		v.put = append(v.put, int(slot))
	}
}

// values: may these be values, of just these types?
func (v *visit) values(list []api.Term, types ...int) bool {
	return are(typesOf(list...), types...) && v.areValues(list...)
}

// areValues: may these be values? (A call without just one result is none.)
func (v *visit) areValues(list ...api.Term) bool {
	for _, t := range list {
		if t.Type == 0 || !v.typed(t) {
			return false
		}
	}
	return true
}

func (v *visit) call(t api.Term) bool { return t.Op == api.XCall && v.typed(t) }

// typed: may this be a value, or a call with any results?
func (v *visit) typed(t api.Term) bool {
	if !isPlain(t) || !v.areValues(t.Kids...) {
		return false
	}
	if t.Op == api.XName {
		return len(t.Kids) == 0 && v.isSlot(t.N) && v.known[t.N] && v.slots[t.N] == t.Type
	}
	typ, ok := v.typeOf(t)
	return ok && typ == t.Type
}

// isPlain: is all empty or 0 that a term of its kind does not have?
func isPlain(t api.Term) bool {
	return (t.Text == "" || t.Op == api.XText) && (t.N == 0 || hasNumber(t.Op)) && (t.Type == 0 || t.Op >= api.XInt)
}

func hasNumber(op uint8) bool {
	switch op {
	case api.XInt, api.XName, api.XCall, api.XField, api.SPut, api.SSlot, api.SField,
		api.SLoop, api.SSwitch, api.SBreak, api.SNext, api.STrap:
		return true
	}
	return false
}
