package flow

import "trammel/api"

// tour goes through the statements of a term, each of them once, and counts them.
type tour struct {
	reached, missed int            // statements that are come to, and that are not
	around          map[int64]ways // by numbers: of the innermost turn around that has it
	leap            func(t api.Term)
}

// ways tells how a turn is led to by what is within it and is come to.
type ways struct {
	left   bool // by an SBreak
	goesOn bool // by an SNext
}

func newTour() *tour {
	around := map[int64]ways{}
	return &tour{around: around, leap: keeper(around)}
}

// keeper makes what is told of an SBreak or SNext that is come to, and writes into a map where it leads. What it writes of numbers
// that nothing around has is not asked for.
func keeper(around map[int64]ways) func(api.Term) {
	return func(t api.Term) {
		by := around[t.N]
		if t.Op == api.SBreak {
			by.left = true
		} else {
			by.goesOn = true
		}
		around[t.N] = by
	}
}

// stmt goes through a statement that is come to, or is not, and tells whether it ends.
func (r *tour) stmt(t api.Term, come bool) bool {
	r.count(come)
	switch t.Op {
	case api.SBlock:
		return r.block(t, come)
	case api.SIf:
		then := r.stmt(kid(t, 1), come)
		otherwise := r.stmt(kid(t, 2), come)
		return then || otherwise
	case api.SLoop:
		return r.loop(t, come)
	case api.SSwitch:
		return r.choice(t, come)
	case api.SBreak, api.SNext:
		if come {
			r.leap(t)
		}
		return false
	case api.SReturn, api.STrap:
		return false
	}
	return come
}

func (r *tour) count(come bool) {
	if come {
		r.reached++
	} else {
		r.missed++
	}
}

func (r *tour) block(t api.Term, come bool) bool {
	for _, k := range t.Kids {
		come = r.stmt(k, come)
	}
	return come
}

func (r *tour) loop(t api.Term, come bool) bool {
	ends, by := r.within(t.N, kid(t, 1), come)
	// the loop is around its third part, too, but is not left by a break that stands there
	r.within(t.N, kid(t, 2), ends || by.goesOn)
	return by.left || come && kid(t, 0).Op != api.XTrue
}

func (r *tour) choice(t api.Term, come bool) bool {
	one := false
	for _, part := range arms(t) {
		ends, by := r.within(t.N, part, come)
		one = one || ends || by.left
	}
	return one
}

// within goes through a part of a turn of that number; it tells whether the part ends, and how the turn is led to from there.
func (r *tour) within(number int64, part api.Term, come bool) (bool, ways) {
	outer := r.around[number]
	r.around[number] = ways{}
	ends := r.stmt(part, come)
	by := r.around[number]
	r.around[number] = outer
	return ends, by
}

// arms tells the parts of an SSwitch one of which is gone through: its SCases' last parts, and its own. Where an SCase stands last,
// the own one is missing; but the SCase may stand for it, since by itself it counts as an empty SBlock does.
func arms(t api.Term) []api.Term {
	var list []api.Term
	for i, k := range t.Kids {
		if i > 0 && k.Op == api.SCase { // the first of the Kids is the value
			list = append(list, kid(k, len(k.Kids)-1))
		}
	}
	return append(list, kid(t, max(1, len(t.Kids)-1)))
}

// kid tells one of a term's Kids; if it is missing, an empty SBlock.
func kid(t api.Term, i int) api.Term {
	if i < 0 || i >= len(t.Kids) {
		return api.Term{Op: api.SBlock}
	}
	return t.Kids[i]
}
