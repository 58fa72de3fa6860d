package kinds

import (
	"slices"

	"trammel/api"
)

// maker makes the table of a program, of a tree that may be.
type maker struct {
	lookup
	wrong api.Errno // what is wrong first
	place int       // of it
}

func (m *maker) fail(place int, wrong api.Errno) {
	if m.wrong == api.OK {
		m.wrong, m.place = wrong, place
	}
}

// declare adds the records, without their fields: these may be of types that stand further behind.
func (m *maker) declare(items []api.Node) {
	for _, n := range items {
		if n.Kind != api.NRecord || m.wrong != api.OK {
			continue
		}
		if len(m.types) == api.MaxRecords {
			m.fail(n.At, api.ErrLimit)
		} else if m.names[n.Text] != 0 {
			m.fail(n.At, api.ErrTwice)
		} else {
			m.add(api.Type{Kind: api.Record, Name: n.Text})
		}
	}
}

// goThrough adds the fields and the arrays, as they are met. Only fields and types have a say, and what lies in these is met
// ahead of them; so all other nodes need not be come back to behind their Kids.
func (m *maker) goThrough(n api.Node) {
	todo := []api.Node{n} // a list, since trees may be deeper than calls should be
	for len(todo) > 0 && m.wrong == api.OK {
		n = todo[len(todo)-1]
		todo = todo[:len(todo)-1]
		switch {
		case n.Kind == api.NRecord:
			m.fill(n)
		case isType(n.Kind):
			m.typeOf(n)
		default:
			for _, kid := range slices.Backward(n.Kids) {
				todo = append(todo, kid)
			}
		}
	}
}

// fill adds a record's fields.
func (m *maker) fill(record api.Node) {
	number := m.names[record.Text]
	for i, n := range record.Kids {
		typ := m.typeOf(n.Kids[0])
		if i == api.MaxFields {
			m.fail(n.At, api.ErrLimit)
		}
		if _, _, twice := m.field(number, n.Text); twice {
			m.fail(n.At, api.ErrTwice)
		}
		if m.wrong != api.OK {
			return
		}
		t := &m.types[number-api.FirstType] // asked anew: the list may have grown
		t.Fields = append(t.Fields, api.Field{Name: n.Text, Type: typ})
	}
}

// typeOf tells the number of the type that a tree tells; the arrays of it that are none yet are added.
func (m *maker) typeOf(n api.Node) int {
	typ := 0
	for _, part := range outward(n) {
		if typ = m.part(part, typ); typ == 0 {
			return 0
		}
	}
	return typ
}

// part tells the number of the type of a node, of which (of an array) the elements' type has the number elem; 0, if it may not
// be.
func (m *maker) part(n api.Node, elem int) int {
	if n.Kind == api.NFixed && !isLen(n.N) {
		m.fail(n.At, api.ErrLen)
		return 0
	}
	if typ := m.number(n, elem); typ != 0 {
		return typ
	}
	if n.Kind == api.NNamed {
		m.fail(n.At, api.ErrType)
		return 0
	}
	if len(m.types) == api.MaxTypes {
		m.fail(n.At, api.ErrLimit)
		return 0
	}
	if n.Kind == api.NGrow {
		return m.add(api.Type{Kind: api.Grow, Elem: elem})
	}
	return m.add(api.Type{Kind: api.Fixed, Elem: elem, Len: int(n.N)})
}
