package eval

import (
	"fmt"
	"reflect"
	"slices"
	"testing"

	"trammel/api"
	"trammel/check"
	"trammel/parse"
)

// plenty are more rules than the runs of most tests use.
const plenty = 1 << 20

// made tells the program of a source that is right.
func made(t testing.TB, s string) api.Program {
	t.Helper()
	n, place, wrong := parse.Source(s)
	if wrong != api.OK {
		t.Fatalf("%s: %d at %d", s, wrong, place)
	}
	p, place, wrong := check.Program(n)
	if wrong != api.OK {
		t.Fatalf("%s: %d at %d", s, wrong, place)
	}
	return p
}

// same: are two answers one? A list of no values may be nil or empty.
func same(a, b api.Answer) bool {
	return a.Trap == b.Trap && a.Steps == b.Steps && slices.Equal(a.Values, b.Values)
}

// answers holds Run to an answer, and Run and Heap to the second reading; also within just as many rules, and within one fewer.
func answers(t *testing.T, p api.Program, f int, args []int64, want api.Answer) {
	t.Helper()
	if got, wrong := Run(p, f, args, plenty); wrong != api.OK || !same(got, want) {
		t.Errorf("%v, %d, want %v", got, wrong, want)
	}
	asPlain(t, p, f, args, plenty)
}

// asPlain holds a run to the second reading; one that has an answer, also with the rules that it uses, and with one fewer.
func asPlain(t *testing.T, p api.Program, f int, args []int64, rules int64) (api.Answer, api.Errno) {
	t.Helper()
	want, words, wrong := plain(p, f, args, rules)
	told(t, p, f, args, rules, want, words, wrong)
	if steps := int64(want.Steps); wrong == api.OK {
		told(t, p, f, args, steps, want, words, wrong)
		told(t, p, f, args, steps-1, api.Answer{}, 0, api.ErrFuel)
	}
	return want, wrong
}

// told holds Run and Heap to what is wanted.
func told(t *testing.T, p api.Program, f int, args []int64, rules int64, want api.Answer, words int, wrong api.Errno) {
	t.Helper()
	got, gotWrong := Run(p, f, args, rules)
	gotWords, heapWrong := Heap(p, f, args, rules)
	if !same(got, want) || gotWrong != wrong || gotWords != words || heapWrong != wrong {
		t.Fatalf("function %d of %v, %d rules: %v, %d; %d words, %d; want %v, %d words, %d", f, args, rules, got, gotWrong, gotWords, heapWrong, want, words, wrong)
	}
}

// keeps holds what is done with a program and args to their not being changed.
func keeps(t *testing.T, p api.Program, args []int64, done func()) {
	t.Helper()
	before := fmt.Sprintf("%#v", p)
	argsBefore := slices.Clone(args[:cap(args)])
	done()
	if fmt.Sprintf("%#v", p) != before || !reflect.DeepEqual(args[:cap(args)], argsBefore) {
		t.Fatalf("%s: changed", before)
	}
}
