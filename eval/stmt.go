package eval

import "trammel/api"

// do does a statement whose values have these words, and tells the trap that comes of it.
func (m *machine) do(n *node, parts ...uint64) int {
	switch n.Op {
	case api.SPut:
		*m.slot(n.N) = parts[0]
	case api.SPuts:
		for i := len(parts) - 1; i >= 0; i-- { // a slot that stands there twice has the first of its results
			*m.slot(n.Kids[i].N) = parts[i]
		}
	case api.SField:
		return m.Set(parts[0], n.N, parts[1])
	case api.SAt:
		return m.Set(parts[0], int64(parts[1]), parts[2])
	case api.SPush:
		return m.Push(parts[0], parts[1])
	case api.STrap:
		return api.TrapUser + int(n.N)
	}
	return api.TrapNone
}

// slot tells where the word of a slot of the innermost frame is.
func (m *machine) slot(number int64) *uint64 { return &m.slots[m.firstSlot+int(number)] }
