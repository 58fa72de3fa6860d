package check

import (
	"slices"

	"trammel/api"
)

// spoil changes one thing of a program, whether it may be then or not. The program is the spoiler's own.
func (m *author) spoil(p *api.Program) {
	if len(p.Funcs) == 0 {
		p.Funcs = append(p.Funcs, api.Func{Name: "n", Body: api.Term{Op: m.op()}})
		return
	}
	f := &p.Funcs[m.Intn(len(p.Funcs))]
	switch m.Intn(12) {
	case 0:
		m.spoilHead(p, f)
	case 1:
		m.spoilTypes(p)
	default:
		var all []*api.Term
		eachTerm(&f.Body, func(t *api.Term) { all = append(all, t) })
		m.spoilTerm(all[m.Intn(len(all))], all)
	}
}

func (m *author) op() uint8 {
	return []uint8{uint8(m.Intn(18)), uint8(40 + m.Intn(38)), uint8(m.Intn(256))}[m.Intn(3)]
}

func (m *author) int() int {
	return []int{0, 1, 2, 3, 4, 5, -1, 16, 17, 18, 6, 1 << 40, m.Intn(30)}[m.Intn(13)]
}

func (m *author) spoilHead(p *api.Program, f *api.Func) {
	switch m.Intn(8) {
	case 0:
		f.Name = m.one("", "while", "x y", "f0", "f1", "ok", "P")
	case 1:
		f.Params = m.spoilList(f.Params)
	case 2:
		f.Results = m.spoilList(f.Results)
	case 3:
		f.Slots = m.spoilList(f.Slots)
	case 4:
		f.Nodes = m.int()
	case 5:
		p.Funcs = p.Funcs[:len(p.Funcs)-1]
	case 6:
		p.Funcs = append(p.Funcs, *f)
	case 7:
		i, k := m.Intn(len(p.Funcs)), m.Intn(len(p.Funcs))
		p.Funcs[i], p.Funcs[k] = p.Funcs[k], p.Funcs[i]
	}
}

func (m *author) spoilList(l []int) []int {
	switch k := m.Intn(4); {
	case k == 0:
		return append(l, m.int())
	case len(l) == 0:
		return nil
	case k == 1:
		return l[:len(l)-1]
	case k == 2:
		i, j := m.Intn(len(l)), m.Intn(len(l))
		l[i], l[j] = l[j], l[i]
		return l
	}
	l[m.Intn(len(l))] = m.int()
	return l
}

func (m *author) spoilTypes(p *api.Program) {
	if len(p.Types) == 0 {
		p.Types = []api.Type{{Kind: uint8(m.Intn(9)), Elem: m.int()}}
		return
	}
	t := &p.Types[m.Intn(len(p.Types))]
	switch m.Intn(6) {
	case 0:
		t.Kind = uint8(m.Intn(10))
	case 1:
		t.Elem = m.int()
	case 2:
		t.Len = m.int()
	case 3:
		t.Name = m.one("", "P", "Other")
	case 4:
		t.Fields = append(t.Fields, api.Field{Name: m.one("x", "new1", ""), Type: m.int()})
	case 5:
		p.Types = p.Types[:len(p.Types)-1]
	}
}

// spoilTerm changes one thing of a term; all are those from which others can be taken.
func (m *author) spoilTerm(t *api.Term, all []*api.Term) {
	other := copiedTerm(*all[m.Intn(len(all))])
	switch k := m.Intn(12); {
	case k == 0:
		t.Op = m.op()
	case k == 1:
		t.Type = m.int()
	case k == 2:
		t.N += int64(m.Intn(5) - 2)
	case k == 3:
		t.N = []int64{0, 1, -1, 127, 128, -128, -129, 255, 256, 1 << 31, -1 << 31, 1 << 62}[m.Intn(12)]
	case k == 4:
		t.Text += "x"
	case k == 5:
		*t = other
	case k == 6:
		t.Kids = slices.Insert(t.Kids, m.Intn(len(t.Kids)+1), other)
	case k == 7:
		t.N = other.N
	case len(t.Kids) == 0:
		t.Kids = nil
	case k == 8:
		at := m.Intn(len(t.Kids))
		t.Kids = slices.Delete(t.Kids, at, at+1)
	case k == 9:
		i, j := m.Intn(len(t.Kids)), m.Intn(len(t.Kids))
		t.Kids[i], t.Kids[j] = t.Kids[j], t.Kids[i]
	case k == 10:
		at := m.Intn(len(t.Kids))
		t.Kids = slices.Insert(t.Kids, at, copiedTerm(t.Kids[at]))
	default:
		at := m.Intn(len(t.Kids))
		t.Kids = slices.Replace(slices.Clone(t.Kids), at, at+1, t.Kids[at].Kids...)
	}
}
