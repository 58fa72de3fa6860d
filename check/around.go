package check

import (
	"slices"

	"trammel/api"
)

// around keeps of each turn of a function, by its number, its kind while it is around what is gone through, and 0 behind it.
type around struct{ turns []uint8 }

// enter enters a turn; false, if its number is not the next one.
func (a *around) enter(t api.Term) bool {
	if t.N != int64(len(a.turns)) {
		return false
	}
	a.turns = append(a.turns, t.Op)
	return true
}

// leave leaves a turn that was entered.
func (a *around) leave(t api.Term) { a.turns[t.N] = 0 }

// isAround: is the turn of that number around, and of one of these kinds?
func (a *around) isAround(number int64, kinds ...uint8) bool {
	return number >= 0 && number < int64(len(a.turns)) && slices.Contains(kinds, a.turns[number])
}

// loop: may this be an SLoop of three parts?
func (v *visit) loop(t api.Term) bool {
	third := t.Kids[2]
	if !v.enter(t) || !v.values(t.Kids[:1], api.Bool) || !v.block(t.Kids[1]) {
		return false
	}
	v.leave(t)
	return isThird(third.Kids...) && v.block(third)
}

// isThird: may the statements be what is done behind each turn of a loop?
func isThird(list ...api.Term) bool {
	return len(list) == 0 || len(list) == 1 && isSimple(list[0].Op)
}

// choice: may this be an SSwitch of a value, perhaps SCases, and the default's block?
func (v *visit) choice(t api.Term) bool {
	value, cases, other := t.Kids[0], t.Kids[1:len(t.Kids)-1], t.Kids[len(t.Kids)-1]
	if !isInt(value.Type) || !v.areValues(value) || !v.enter(t) {
		return false
	}
	numbers := map[int64]struct{}{}
	for _, c := range cases {
		if c.Op != api.SCase || !isPlain(c) || len(c.Kids) < 2 || !v.arm(c, value.Type, numbers) {
			return false
		}
	}
	if !v.block(other) {
		return false
	}
	v.leave(t)
	return true
}

// arm: may this be an SCase of a switch over that type, which has these numbers ahead of it? Its own become some of them.
func (v *visit) arm(t api.Term, typ int, ahead map[int64]struct{}) bool {
	last := len(t.Kids) - 1
	for _, x := range t.Kids[:last] {
		if _, twice := ahead[x.N]; twice || x.Op != api.XInt || x.Type != typ || !v.areValues(x) {
			return false
		}
		ahead[x.N] = struct{}{}
	}
	return v.block(t.Kids[last])
}
