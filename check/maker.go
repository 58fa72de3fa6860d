package check

import (
	"trammel/api"
	"trammel/kinds"
	"trammel/scope"
)

// maker makes a program of a tree whose types are known. Its functions have no bodies at first: calls lean on the functions
// further behind, too.
type maker struct {
	rules
	fault
	table  *kinds.Table
	places map[string]int // of the functions, by their names
}

func newMaker(table *kinds.Table) *maker {
	return &maker{
		rules:  rules{api.Program{Types: table.Types()}},
		table:  table,
		places: map[string]int{},
	}
}

// declare adds the functions, without their bodies.
func (m *maker) declare(funcs []api.Node) {
	for i, n := range funcs {
		_, twice := m.places[n.Text]
		m.ask(i < api.MaxFuncs, n.At, api.ErrLimit)
		m.ask(!twice, n.At, api.ErrTwice)
		params := m.numbers(api.MaxParams, n.Kids[0].Kids...)
		results := m.numbers(api.MaxResults, n.Kids[1].Kids...)
		if m.wrong != api.OK {
			return
		}
		m.places[n.Text] = i
		m.Funcs = append(m.Funcs, api.Func{Name: n.Text, Params: params, Results: results, Nodes: count(n)})
	}
}

// numbers tells the types' numbers of parameters, or of results; there may be so many at most.
func (m *maker) numbers(most int, nodes ...api.Node) []int {
	var list []int
	for i, n := range nodes {
		m.ask(i < most, n.At, api.ErrLimit)
		if m.wrong != api.OK {
			return nil
		}
		if n.Kind == api.NField {
			n = n.Kids[0]
		}
		list = append(list, m.table.Find(n))
	}
	return list
}

// fill makes the functions' bodies.
func (m *maker) fill(funcs []api.Node) {
	for i, n := range funcs {
		if m.wrong != api.OK {
			return
		}
		f := &m.Funcs[i]
		w := &walker{Scope: scope.New(), maker: m, results: f.Results}
		for k, param := range n.Kids[0].Kids {
			w.local(param, f.Params[k])
		}
		f.Body = w.block(n.Kids[2])
		f.Slots = w.Slots()
	}
}

// count tells how many nodes a tree has, it counted.
func count(n api.Node) int {
	nodes := 0
	todo := []api.Node{n}
	for len(todo) > 0 {
		n = todo[len(todo)-1]
		todo = append(todo[:len(todo)-1], n.Kids...)
		nodes++
	}
	return nodes
}
