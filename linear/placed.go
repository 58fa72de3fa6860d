package linear

import (
	"slices"

	"trammel/api"
	"trammel/ops"
)

// placed is what lines and a code's bytes have in common: instructions whose targets are places.
type placed struct {
	list   []api.Instr
	places []int // where each instruction stands, rising
	end    int   // the place behind the last one
}

// retarget tells an instruction each of whose targets is what f makes of it.
func retarget(x api.Instr, f func(to int64) int64) api.Instr {
	list := Targets(x)
	for i, to := range list {
		list[i] = f(to)
	}
	y, _ := Moved(x, list) // as many as there were
	return y
}

// heads tells the places to which something leads, rising.
func (p placed) heads() []int64 {
	var list []int64
	for _, x := range p.list {
		list = append(list, Targets(x)...)
	}
	slices.Sort(list)
	return slices.Compact(list)
}

// lines tells the normal lines; false, if something leads to what is neither an instruction's place nor the end.
func (p placed) lines() ([]api.Line, bool) {
	heads := p.heads()
	number := func(place int64) int64 {
		n, _ := slices.BinarySearch(heads, place)
		return int64(n)
	}
	var out []api.Line
	next := 0 // the number of the next label; behind a head that is no such place none is put any more
	reach := func(place int) {
		if next < len(heads) && heads[next] == int64(place) {
			out = append(out, api.Line{Label: next})
			next++
		}
	}
	for i, x := range p.list {
		reach(p.places[i])
		out = append(out, api.Line{X: retarget(x, number)})
	}
	reach(p.end)
	return out, next == len(heads)
}

func (p placed) bytes() []byte {
	code := make([]byte, 0, p.end)
	for _, x := range p.list {
		b, _ := ops.Encode(x) // a place that a code has is one that an instruction may have
		code = append(code, b...)
	}
	return code
}
