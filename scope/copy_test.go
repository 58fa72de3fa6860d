package scope

import (
	"fmt"
	"testing"
)

func TestP7_6Copy(t *testing.T) {
	s := New()
	holds(t, s, told{declare("a", 1), "0 0"}, told{open(), "2"}, told{declare("b", 2), "1 0"}, told{enter("L", true), "0 0"}, told{enter("", false), "1 0"})
	c := s.Copy()
	if c == nil || c == s {
		t.Fatal("Copy: no new scope")
	}
	// what is done to the first one is not seen in the copy
	holds(t, s, told{declare("c", 3), "2 0"}, told{enter("M", true), "2 0"}, told{leave(), "true"}, told{leave(), "true"}, told{leave(), "true"}, told{closeIt(), "true"}, told{closeIt(), "false"})
	holds(t, c, told{find("a"), "0 1 true"}, told{find("b"), "1 2 true"}, told{find("c"), isNone}, told{slots(), "[1 2]"},
		told{target("L", true), "0 0"}, told{target("", false), "1 0"}, told{target("M", false), isLabel})
	// nor what is done to the copy in the first one
	holds(t, c, told{declare("d", 4), "2 0"}, told{enter("N", false), "2 0"}, told{open(), "3"}, told{declare("e", 5), "3 0"})
	holds(t, s, told{find("d"), isNone}, told{target("N", false), isLabel}, told{slots(), "[1 2 3]"}, told{open(), "2"}, told{declare("d", 6), "3 0"}, told{enter("N", true), "3 0"}, told{target("N", true), "3 0"})
	holds(t, c, told{find("d"), "2 4 true"}, told{target("N", true), isLabel}, told{slots(), "[1 2 4 5]"}, told{closeIt(), "true"}, told{closeIt(), "true"}, told{closeIt(), "false"}, told{find("a"), "0 1 true"})
}

// Lists that have room behind their ends: what two scopes put there must not meet.
func TestP7_6CopyApart(t *testing.T) {
	for size := range 20 {
		s := New()
		for i := range size {
			holds(t, s, told{declare(fmt.Sprint(i), i), fmt.Sprint(i, 0)}, told{open(), fmt.Sprint(i + 2)}, told{enter(fmt.Sprint("L", i), i%2 == 0), fmt.Sprint(i, 0)})
		}
		c := s.Copy()
		next := fmt.Sprint(size, 0)
		holds(t, s, told{declare("x", 100), next}, told{open(), fmt.Sprint(size + 2)}, told{enter("X", true), next})
		holds(t, c, told{declare("y", 200), next}, told{enter("Y", false), next}, told{open(), fmt.Sprint(size + 2)})
		holds(t, s, told{find("x"), fmt.Sprint(size, 100, true)}, told{find("y"), isNone}, told{target("X", true), next}, told{target("", false), next}, told{target("Y", false), isLabel}, told{target("", true), next})
		holds(t, c, told{find("y"), fmt.Sprint(size, 200, true)}, told{find("x"), isNone}, told{target("Y", false), next}, told{target("Y", true), isLabel}, told{target("X", false), isLabel})
	}
}

func TestP7_6CopyOfACopy(t *testing.T) {
	s := New()
	holds(t, s, told{declare("a", 1), "0 0"}, told{enter("L", true), "0 0"})
	c := s.Copy()
	holds(t, c, told{open(), "2"}, told{declare("a", 2), "1 0"})
	d := c.Copy()
	holds(t, d, told{find("a"), "1 2 true"}, told{closeIt(), "true"}, told{find("a"), "0 1 true"}, told{leave(), "true"})
	holds(t, c, told{find("a"), "1 2 true"}, told{target("L", true), "0 0"})
	holds(t, s, told{find("a"), "0 1 true"}, told{closeIt(), "false"}, told{slots(), "[1]"})
	if none := (*Scope)(nil); none.Copy() != nil || none.Copy().Copy() != nil {
		t.Error("Copy of none: a scope")
	}
	empty := New().Copy()
	holds(t, empty, told{closeIt(), "false"}, told{enter("L", true), "0 0"}, told{target("L", true), "0 0"}, told{declare("", 0), "0 0"}, told{open(), "2"})
}

// Copy and all that only asks leave a scope as it is, and a copy has the same.
func TestP7_6Asking(t *testing.T) {
	m := newAuthor(60)
	for range 200 {
		s := New()
		for range m.Intn(60) {
			answer(s, m.call())
		}
		before := seen(s)
		c := s.Copy()
		for range 5 {
			for _, ask := range []call{find(m.name()), target(m.label(), m.turns()), slots()} {
				holds(t, s, told{ask, answer(s, ask)}, told{ask, answer(c, ask)})
			}
		}
		if after := seen(s); after != before {
			t.Fatalf("asked: %s, before %s", after, before)
		}
		if other := seen(c); other != before {
			t.Fatalf("the copy: %s, want %s", other, before)
		}
	}
}

// A call that answers an error, or false, changes nothing of what any call behind it answers.
func TestP7_6ErrorsChangeNothing(t *testing.T) {
	m := newAuthor(61)
	met := make(map[string]int)
	for round := range 90 {
		s := New()
		if round%3 == 0 {
			fill(t, s, m.Intn(5))
		}
		for range 60 {
			before := seen(s)
			c := m.call()
			got := answer(s, c)
			if got != isTwice && got != isLabel && got != isLocals && got != "false" && got != isNone {
				continue
			}
			met[c.do+got]++
			if after := seen(s); after != before {
				t.Fatalf("%s, which answered %s: %s, before %s", c, got, after, before)
			}
		}
	}
	for _, key := range []string{"Declare" + isTwice, "Declare" + isLocals, "Enter" + isTwice, "Target" + isLabel, "Closefalse", "Leavefalse", "Find" + isNone} {
		if met[key] < 20 {
			t.Errorf("%s: met %d times", key, met[key])
		}
	}
}

// A row of calls answers the same whenever it is done anew.
func TestP7_6SameAgain(t *testing.T) {
	for seed := range 50 {
		m := newAuthor(int64(seed))
		var list []call
		for range 200 {
			list = append(list, m.call())
		}
		a, b := New(), New()
		for i, c := range list {
			if x, y := answer(a, c), answer(b, c); x != y {
				t.Fatalf("seed %d, call %d, %s: %s and %s", seed, i, c, x, y)
			}
		}
		if x, y := seen(a), seen(b); x != y {
			t.Fatalf("seed %d: %s and %s", seed, x, y)
		}
	}
}
