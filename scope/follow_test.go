package scope

import (
	"fmt"
	"testing"

	"trammel/api"
)

// Slots and numbers rise by one, whatever is closed or left in between.
func TestP7_7Rise(t *testing.T) {
	m := newAuthor(70)
	for range 200 {
		s := New()
		slot, number := 0, 0
		for range 200 {
			c := m.call()
			switch got := answer(s, c); {
			case c.do == "Declare" && got != isTwice:
				if got != fmt.Sprint(slot, 0) {
					t.Fatalf("Declare: %s, want %d", got, slot)
				}
				slot++
			case c.do == "Enter" && got != isTwice:
				if got != fmt.Sprint(number, 0) {
					t.Fatalf("Enter: %s, want %d", got, number)
				}
				number++
			}
		}
		if l := s.Slots(); len(l) != slot {
			t.Fatalf("Slots: %v, want %d", l, slot)
		}
	}
}

// within does calls at will that leave as many blocks and turns as there were, and tells how many slots and numbers were given out.
func (m author) within(s *Scope, size int) (slots, numbers int) {
	for range m.Intn(6) {
		switch m.Intn(6) {
		case 0, 1:
			if _, wrong := s.Declare(m.name(), m.typ()); wrong == api.OK {
				slots++
			}
		case 2, 3:
			if size == 0 {
				continue
			}
			s.Open()
			a, b := m.within(s, size-1)
			slots, numbers = slots+a, numbers+b
			s.Close()
		case 4:
			if _, wrong := s.Enter(m.label(), m.turns()); wrong != api.OK {
				continue
			}
			a, b := 0, 0
			if size > 0 {
				a, b = m.within(s, size-1)
			}
			slots, numbers = slots+a, numbers+b+1
			s.Leave()
		case 5:
			answer(s, find(m.name()))
			answer(s, target(m.label(), m.turns()))
		}
	}
	return slots, numbers
}

// What was done within a block that is closed is not seen any more, but for the next slot and number.
func TestP7_7ClosedBlocks(t *testing.T) {
	m := newAuthor(71)
	done := 0
	for range 500 {
		s := New()
		for range m.Intn(30) {
			answer(s, m.call())
		}
		before, had := stays(s), len(s.Slots())
		first, wrong := s.Copy().Enter("", true)
		if wrong != api.OK {
			t.Fatal("Enter:", wrong)
		}
		s.Open()
		slots, numbers := m.within(s, 3)
		s.Close()
		if after := stays(s); after != before {
			t.Fatalf("behind a block: %s, before it %s", after, before)
		}
		if len(s.Slots()) != had+slots {
			t.Fatalf("Slots: %v, want %d", s.Slots(), had+slots)
		}
		holds(t, s, told{declare("the next one", 5), fmt.Sprint(had+slots, 0)}, told{enter("", false), fmt.Sprint(first+numbers, 0)})
		done += slots + numbers
	}
	if done < 1000 {
		t.Errorf("%d slots and numbers in all", done)
	}
}

// Names of an inner block hide those of outer ones, and give them back.
func TestP7_7Hide(t *testing.T) {
	s := New()
	const deep = 100
	for i := range deep {
		if i > 0 {
			s.Open()
			holds(t, s, told{find("a"), fmt.Sprint(2*(i-1), -i+1, true)}) // till it is declared, that of the outer block
		}
		holds(t, s, told{declare("a", -i), fmt.Sprint(2*i, 0)}, told{find("a"), fmt.Sprint(2*i, -i, true)},
			told{declare(fmt.Sprint("own", i), i), fmt.Sprint(2*i+1, 0)}, told{find("own0"), "1 0 true"})
	}
	for i := deep - 1; i > 0; i-- {
		holds(t, s, told{find("a"), fmt.Sprint(2*i, -i, true)}, told{find(fmt.Sprint("own", i)), fmt.Sprint(2*i+1, i, true)},
			told{closeIt(), "true"}, told{find(fmt.Sprint("own", i)), isNone})
	}
	holds(t, s, told{find("a"), "0 0 true"}, told{find("own0"), "1 0 true"}, told{closeIt(), "false"}, told{find("a"), "0 0 true"})
}
