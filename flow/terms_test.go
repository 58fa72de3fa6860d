package flow

import (
	"reflect"
	"slices"
	"testing"

	"trammel/api"
	"trammel/check"
	"trammel/parse"
)

// Terms, as short as can be: those of a kind that ends, that does not end, and that hold others.
var (
	doing = api.Term{Op: api.SDo, Kids: []api.Term{{Op: api.XCall}}}
	back  = api.Term{Op: api.SReturn}
	fall  = api.Term{Op: api.STrap, N: 1}
	yes   = api.Term{Op: api.XTrue, Type: api.Bool}
	may   = api.Term{Op: api.XName, Type: api.Bool}
	one   = api.Term{Op: api.XInt, Type: api.I64, N: 1}
	none  = api.Term{Op: api.SBlock}
)

func block(kids ...api.Term) api.Term  { return api.Term{Op: api.SBlock, Kids: kids} }
func branch(kids ...api.Term) api.Term { return api.Term{Op: api.SIf, Kids: kids} }
func arm(kids ...api.Term) api.Term    { return api.Term{Op: api.SCase, Kids: kids} }
func left(n int64) api.Term            { return api.Term{Op: api.SBreak, N: n} }
func next(n int64) api.Term            { return api.Term{Op: api.SNext, N: n} }

func loop(n int64, kids ...api.Term) api.Term { return api.Term{Op: api.SLoop, N: n, Kids: kids} }

func choice(n int64, kids ...api.Term) api.Term { return api.Term{Op: api.SSwitch, N: n, Kids: kids} }

// holds holds a term to what is wanted of Ends and Reached.
func holds(t *testing.T, name string, x api.Term, ends bool, reached, missed int) {
	t.Helper()
	gotEnds := Ends(x)
	gotReached, gotMissed := Reached(x)
	if gotEnds != ends || gotReached != reached || gotMissed != missed {
		t.Errorf("%s: %t, %d, %d, want %t, %d, %d", name, gotEnds, gotReached, gotMissed, ends, reached, missed)
	}
}

// asPlain holds a term to the second reading.
func asPlain(t *testing.T, x api.Term) {
	t.Helper()
	ends, reached, missed := plain(x)
	gotEnds := Ends(x)
	gotReached, gotMissed := Reached(x)
	if gotEnds != ends || gotReached != reached || gotMissed != missed {
		t.Fatalf("%v: %t, %d, %d, the second reading %t, %d, %d", x, gotEnds, gotReached, gotMissed, ends, reached, missed)
	}
}

// keeps holds what is done with a term to its not being changed.
func keeps(t *testing.T, x api.Term, done func()) {
	t.Helper()
	ahead := copiedTerm(x)
	done()
	if !reflect.DeepEqual(x, ahead) {
		t.Fatalf("%v: changed to %v", ahead, x)
	}
}

// made tells the program of a source that is right.
func made(t *testing.T, s string) api.Program {
	t.Helper()
	n, place, wrong := parse.Source(s)
	if wrong != api.OK {
		t.Fatalf("%s: %d at %d", s, wrong, place)
	}
	p, place, wrong := check.Program(n)
	if wrong != api.OK {
		t.Fatalf("%s: %d at %d", s, wrong, place)
	}
	return p
}

// body tells the term of statements that may ask for a bool a and an i64 n, and call f.
func body(t *testing.T, stmts string) api.Term {
	t.Helper()
	return made(t, "fn f() { } fn g(a bool, n i64) { "+stmts+" }").Funcs[1].Body
}

func copiedTerm(t api.Term) api.Term {
	t.Kids = slices.Clone(t.Kids)
	for i, k := range t.Kids {
		t.Kids[i] = copiedTerm(k)
	}
	return t
}

// eachTerm calls f with each term of a term, it itself first.
func eachTerm(t *api.Term, f func(*api.Term)) {
	f(t)
	for i := range t.Kids {
		eachTerm(&t.Kids[i], f)
	}
}
