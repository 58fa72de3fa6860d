package scope

import "trammel/api"

// none stands for the number of a loop where there is no loop.
const none = -1

// turn is a loop or switch that is entered. The loop that is the innermost one there is kept with it, so that none need be
// looked for: it is its own number, if it is a loop itself.
type turn struct {
	label  string
	number int
	loop   int
}

// Enter enters a loop, if turns, else a switch, and tells its number.
func (s *Scope) Enter(label string, turns bool) (int, api.Errno) {
	if s == nil {
		return 0, api.ErrNil
	}
	if _, has := s.labels[label]; has { // no turn is kept by an empty label
		return 0, api.ErrTwice
	}
	t := turn{label: label, number: s.entered, loop: s.entered}
	if !turns {
		t.loop = s.innermostLoop()
	}
	s.turns.push(t)
	s.keep(t)
	s.entered++
	return t.number, api.OK
}

// Leave leaves the innermost turn that is entered; false, if none is.
func (s *Scope) Leave() bool {
	if s == nil {
		return false
	}
	t, has := s.turns.pop()
	delete(s.labels, t.label)
	return has
}

// Target tells what a break leads to, or, if turns, a continue.
func (s *Scope) Target(label string, turns bool) (int, api.Errno) {
	if s == nil {
		return 0, api.ErrNil
	}
	t, has := s.labels[label]
	if label == "" {
		t, has = s.turns.innermost()
	}
	to := t.number
	if turns {
		to = t.loop
	}
	// a label means the turn that has it alone, and no loop around it
	if !has || to == none || label != "" && to != t.number {
		return 0, api.ErrLabel
	}
	return to, api.OK
}

// keep keeps a turn by its label, if it has one, so that it need not be looked for among all.
func (s *Scope) keep(t turn) {
	if t.label == "" {
		return
	}
	if s.labels == nil {
		s.labels = make(map[string]turn)
	}
	s.labels[t.label] = t
}

func (s *Scope) innermostLoop() int {
	if t, has := s.turns.innermost(); has {
		return t.loop
	}
	return none
}
