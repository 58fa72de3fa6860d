package scope

import (
	"fmt"
	"slices"
	"testing"

	"trammel/api"
)

// plain is the second reading of the chapter: it keeps the calls that were made and changed something, nothing else, and works
// each answer out of these anew.
type plain struct{ past []call }

func (p *plain) count(do string) int {
	n := 0
	for _, c := range p.past {
		if c.do == do {
			n++
		}
	}
	return n
}

func (p *plain) did(c call) { p.past = append(p.past, c) }

func (p *plain) Open() int {
	p.did(open())
	return 1 + p.count("Open") - p.count("Close")
}

func (p *plain) Close() bool {
	if p.count("Open") == p.count("Close") {
		return false
	}
	p.did(closeIt())
	return true
}

// live tells, back from now, the places in the past of what was done within nothing that has ended since. What begins something
// that has not ended is among these.
func (p *plain) live(begin, end string) []int {
	var list []int
	ended := 0
	for i, c := range slices.Backward(p.past) {
		switch {
		case c.do == end:
			ended++
		case c.do == begin && ended > 0:
			ended--
		case ended == 0:
			list = append(list, i)
		}
	}
	return list
}

func (p *plain) Declare(name string, typ int) (int, api.Errno) {
	for _, i := range p.live("Open", "Close") {
		c := p.past[i]
		if c.do == "Open" {
			break
		}
		if c.do == "Declare" && c.name == name {
			return 0, api.ErrTwice
		}
	}
	slot := p.count("Declare")
	if slot == api.MaxLocals {
		return 0, api.ErrLocals
	}
	p.did(declare(name, typ))
	return slot, api.OK
}

func (p *plain) Find(name string) (int, int, bool) {
	for _, i := range p.live("Open", "Close") {
		c := p.past[i]
		if c.do == "Declare" && c.name == name {
			ahead := plain{p.past[:i]}
			return ahead.count("Declare"), c.typ, true
		}
	}
	return 0, 0, false
}

func (p *plain) Slots() []int {
	var list []int
	for _, c := range p.past {
		if c.do == "Declare" {
			list = append(list, c.typ)
		}
	}
	return list
}

// turn tells the innermost turn that is entered and is taken: its number.
func (p *plain) turn(takes func(call) bool) (int, bool) {
	for _, i := range p.live("Enter", "Leave") {
		c := p.past[i]
		if c.do == "Enter" && takes(c) {
			ahead := plain{p.past[:i]}
			return ahead.count("Enter"), true
		}
	}
	return 0, false
}

func (p *plain) Enter(label string, turns bool) (int, api.Errno) {
	_, has := p.turn(func(c call) bool { return c.name == label })
	if label != "" && has {
		return 0, api.ErrTwice
	}
	number := p.count("Enter")
	p.did(enter(label, turns))
	return number, api.OK
}

func (p *plain) Leave() bool {
	if p.count("Enter") == p.count("Leave") {
		return false
	}
	p.did(leave())
	return true
}

func (p *plain) Target(label string, turns bool) (int, api.Errno) {
	number, has := p.turn(func(c call) bool { return (label == "" || c.name == label) && (!turns || c.turns) })
	if !has {
		return 0, api.ErrLabel
	}
	return number, api.OK
}

func (p *plain) Copy() *plain { return &plain{slices.Clone(p.past)} }

// Rows of calls made at will, on scopes and their copies in turn, answer what the second reading says.
func TestP7_6AtWill(t *testing.T) {
	met := make(map[string]int)
	for seed := range 200 {
		m := newAuthor(int64(seed))
		scopes, plains := []*Scope{New()}, []*plain{{}}
		for i := range 400 {
			at := m.Intn(len(scopes))
			if m.Intn(20) == 0 && len(scopes) < 8 {
				scopes, plains = append(scopes, scopes[at].Copy()), append(plains, plains[at].Copy())
			}
			c := m.call()
			got, want := answer(scopes[at], c), answer(plains[at], c)
			if got != want {
				t.Fatalf("seed %d, call %d, %s on %d: %s, want %s", seed, i, c, at, got, want)
			}
			if c.do == "Declare" || c.do == "Enter" || c.do == "Target" {
				got = got[len(got)-2:]
			}
			if c.do != "Slots" && c.do != "Open" && c.do != "Find" {
				met[fmt.Sprint(c.do, got)]++
			}
		}
		for i, s := range scopes {
			if got, want := stays(s), stays(plains[i]); got != want {
				t.Fatalf("seed %d, scope %d: %s, want %s", seed, i, got, want)
			}
		}
	}
	for _, key := range []string{"Closetrue", "Closefalse", "Declare70", "Declare 0", "Enter70", "Enter 0", "Leavetrue", "Leavefalse", "Target72", "Target 0"} {
		if met[key] < 100 {
			t.Errorf("%s: met %d times", key, met[key])
		}
	}
}

// So do rows in which slots run out.
func TestP7_3AtWillToTheLimit(t *testing.T) {
	ended := 0
	for seed := range 10 {
		m := newAuthor(int64(1000 + seed))
		s, p := New(), &plain{}
		for i := range 1500 {
			c := m.call()
			if m.Intn(2) == 0 {
				c = declare(fmt.Sprint(m.Intn(400)), m.typ())
			}
			got, want := answer(s, c), answer(p, c)
			if got != want {
				t.Fatalf("seed %d, call %d, %s: %s, want %s", seed, i, c, got, want)
			}
			if got == isLocals {
				ended++
			}
		}
	}
	if ended < 1000 {
		t.Errorf("ErrLocals: met %d times", ended)
	}
}
