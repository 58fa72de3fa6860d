package scope

import (
	"fmt"
	"math/rand"
	"testing"

	"trammel/api"
)

// scoped is what a scope and the second reading of the chapter have in common.
type scoped interface {
	Open() int
	Close() bool
	Declare(name string, typ int) (int, api.Errno)
	Find(name string) (int, int, bool)
	Slots() []int
	Enter(label string, turns bool) (int, api.Errno)
	Leave() bool
	Target(label string, turns bool) (int, api.Errno)
}

// call is one call of a scope with what it is handed; what a call does not take stands at zero.
type call struct {
	do    string
	name  string // a label, too
	typ   int
	turns bool
}

func (c call) String() string { return fmt.Sprintf("%s(%q, %d, %t)", c.do, c.name, c.typ, c.turns) }

// The calls, written as the chapter's examples write them.
func open() call                           { return call{do: "Open"} }
func closeIt() call                        { return call{do: "Close"} }
func declare(name string, typ int) call    { return call{do: "Declare", name: name, typ: typ} }
func find(name string) call                { return call{do: "Find", name: name} }
func slots() call                          { return call{do: "Slots"} }
func enter(label string, turns bool) call  { return call{do: "Enter", name: label, turns: turns} }
func leave() call                          { return call{do: "Leave"} }
func target(label string, turns bool) call { return call{do: "Target", name: label, turns: turns} }

// answer does a call, and tells what it answers: a number and an error as two numbers, a list as its length and its numbers.
func answer(s scoped, c call) string {
	switch c.do {
	case "Open":
		return fmt.Sprint(s.Open())
	case "Close":
		return fmt.Sprint(s.Close())
	case "Declare":
		slot, wrong := s.Declare(c.name, c.typ)
		return fmt.Sprint(slot, int(wrong))
	case "Find":
		return fmt.Sprint(s.Find(c.name))
	case "Slots":
		return fmt.Sprint(s.Slots())
	case "Enter":
		number, wrong := s.Enter(c.name, c.turns)
		return fmt.Sprint(number, int(wrong))
	case "Leave":
		return fmt.Sprint(s.Leave())
	case "Target":
		number, wrong := s.Target(c.name, c.turns)
		return fmt.Sprint(number, int(wrong))
	}
	panic("no such call: " + c.do)
}

// told is a call and what it must answer.
type told struct {
	call
	want string
}

// holds does calls one behind the other, and holds each to its answer.
func holds(t *testing.T, s scoped, list ...told) {
	t.Helper()
	for i, c := range list {
		if got := answer(s, c.call); got != c.want {
			t.Errorf("call %d, %s: %s, want %s", i, c.call, got, c.want)
		}
	}
}

// The answers with errors.
const (
	isNil    = "0 1"
	isTwice  = "0 70"
	isLabel  = "0 72"
	isLocals = "0 73"
	isNone   = "0 0 false"
)

// names are those that the tests made at will use; Find and Target are asked for one more.
var names = []string{"a", "b", "", "ab", "A", "a\x00", "\xff"}

// seen tells all that a scope tells without being changed, and, by what its copies answer, what the next calls will.
func seen(s *Scope) string {
	all := answer(s, slots())
	c := s.Copy()
	for more := true; more; more = c.Close() {
		all += next(c)
	}
	for more := true; more; more = c.Leave() {
		all += next(c)
	}
	return all
}

// next tells what a scope tells, and what it would answer to the calls that begin something.
func next(s *Scope) string {
	c := s.Copy()
	return stays(s) + answer(c, declare("a", -7)) + answer(c, declare("the next one", -8)) + answer(c, open()) + answer(c, enter("a", true)) + answer(c, enter("", false)) + stays(c)
}

// stays tells what a scope tells of names and labels.
func stays(s scoped) string {
	all := ""
	for _, name := range append([]string{"never declared"}, names...) {
		all += fmt.Sprintf("[%q %s, %s, %s]", name, answer(s, find(name)), answer(s, target(name, false)), answer(s, target(name, true)))
	}
	return all
}

// author makes calls at will.
type author struct{ *rand.Rand }

func newAuthor(seed int64) author { return author{rand.New(rand.NewSource(seed))} }

func (m author) name() string { return names[m.Intn(len(names))] }

// label tells no label as often as one.
func (m author) label() string {
	if m.Intn(2) == 0 {
		return ""
	}
	return m.name()
}

func (m author) typ() int { return m.Intn(40) - 10 }

func (m author) turns() bool { return m.Intn(2) == 0 }

// call makes a call; those that begin something come about as often as those that end it.
func (m author) call() call {
	switch m.Intn(11) {
	case 0, 1:
		return open()
	case 2:
		return closeIt()
	case 3, 4:
		return declare(m.name(), m.typ())
	case 5:
		return find(m.name())
	case 6:
		return slots()
	case 7, 8:
		return enter(m.label(), m.turns())
	case 9:
		return []call{leave(), closeIt()}[m.Intn(2)]
	}
	return target(m.label(), m.turns())
}
