package eval

import (
	"trammel/api"
	"trammel/heap"
)

// machine works terms out.
type machine struct {
	*heap.Heap
	frame            // the innermost one
	callers  []frame // those around it, the outermost first
	done     bool    // is the term that the frame has come to worked out, or is it to be begun?
	over     bool    // has the outermost frame ended?
	trap     int
	used     int64 // rules
	rules    int64 // that may be used
	slots    []uint64
	words    []uint64 // of values that are worked out, but not what they are parts of
	types    []api.Type
	funcs    []api.Func
	numbered []*body // of the functions that were called
}

// frame is a call that is not over: to which term it has come, and from where on the slots and the words are its own.
type frame struct {
	*body
	at        int32
	firstSlot int
	firstWord int
}

func newMachine(p api.Program, rules int64) *machine {
	return &machine{
		Heap:     heap.New(api.MaxHeap),
		rules:    rules,
		types:    p.Types,
		funcs:    p.Funcs,
		numbered: make([]*body, len(p.Funcs)),
	}
}

// run goes on till the outermost frame ends, or a trap ends it; false, if that takes more rules.
func (m *machine) run() bool {
	for !m.over && m.trap == api.TrapNone {
		if m.done {
			m.goOn()
			continue
		}
		if m.used >= m.rules {
			return false
		}
		m.used++
		m.begin()
	}
	return true
}

// toBegin makes a term the one that is to be begun.
func (m *machine) toBegin(at int32) { m.at, m.done = at, false }

// toEnd makes a term the one that is worked out.
func (m *machine) toEnd(at int32) { m.at, m.done = at, true }

// begin begins a term: its first part is next, or it has none.
func (m *machine) begin() {
	n := &m.nodes[m.at]
	switch {
	case len(n.Kids) == 0:
		m.finish(m.at)
	case n.Op == api.SPuts: // ahead of its call stand slots, which are not begun
		m.toBegin(n.last)
	default:
		m.toBegin(m.at + 1)
	}
}

// goOn goes on with the term of which a part is worked out.
func (m *machine) goOn() {
	part := &m.nodes[m.at]
	if part.up == outermost {
		m.leave()
		return
	}
	whole := &m.nodes[part.up]
	first, last := m.at == part.up+1, m.at == whole.last
	switch fork := decides(whole.Op); {
	case fork && first:
		m.decide(part, whole)
	case whole.Op == api.SLoop && last:
		m.toBegin(part.up + 1) // the test again
	case whole.Op == api.SLoop:
		m.toBegin(whole.last)
	case fork:
		m.toEnd(part.up)
	case last:
		m.finish(part.up)
	default:
		m.toBegin(part.next)
	}
}

// decides: does the first part of such a term tell which of the others is begun?
func decides(op uint8) bool {
	switch op {
	case api.SIf, api.SLoop, api.SSwitch, api.XBoth, api.XEither:
		return true
	}
	return false
}

// decide goes the way that the word of the first part tells.
func (m *machine) decide(first, whole *node) {
	word := m.take()
	switch {
	case whole.Op == api.SSwitch:
		m.toBegin(m.choose(whole, int64(word)))
	case whole.Op == api.SIf && word == 0:
		m.toBegin(whole.last)
	case whole.Op == api.SLoop && word == 0:
		m.toEnd(first.up)
	case whole.Op == api.XBoth && word == 0, whole.Op == api.XEither && word == 1:
		m.put(word) // the whole has it, too
		m.toEnd(first.up)
	default:
		m.toBegin(first.next)
	}
}

// finish does what a term does when its parts are worked out.
func (m *machine) finish(at int32) {
	n := &m.nodes[at]
	switch n.Op {
	case api.XCall:
		m.at = at
		m.call(n)
	case api.SReturn:
		m.leave()
	case api.SBreak:
		m.toEnd(m.turn(at))
	case api.SNext:
		m.toBegin(m.nodes[m.turn(at)].last)
	default:
		m.trap = m.apply(n)
		m.toEnd(at)
	}
}

// apply does what a value or a statement does that leads nowhere else. In a frame no word lies ahead of a statement's own ones.
func (m *machine) apply(n *node) int {
	if n.Op < api.XInt {
		trap := m.do(n, m.words[m.firstWord:]...)
		m.words = m.words[:m.firstWord]
		return trap
	}
	from := len(m.words) - len(n.Kids)
	word, trap := m.value(n, m.words[from:]...)
	m.words = append(m.words[:from], word)
	return trap
}

// call makes a frame more, unless there are too many.
func (m *machine) call(n *node) {
	if len(m.callers)+1 >= api.MaxCalls {
		m.trap = api.TrapDepth
		return
	}
	from := len(m.words) - len(n.Kids)
	args := m.words[from:]
	m.words = m.words[:from]
	m.callers = append(m.callers, m.frame)
	m.enter(int(n.N), args...)
}

// enter makes a function's frame the innermost one.
func (m *machine) enter(f int, args ...uint64) {
	if m.numbered[f] == nil {
		m.numbered[f] = newBody(&m.funcs[f].Body)
	}
	m.frame = frame{body: m.numbered[f], firstSlot: len(m.slots), firstWord: len(m.words)}
	m.slots = append(m.slots, args...)
	m.slots = append(m.slots, make([]uint64, len(m.funcs[f].Slots)-len(args))...)
	m.toBegin(0)
}

// leave ends the innermost frame. Its results lie where its arguments lay, so they are the caller's already.
func (m *machine) leave() {
	m.slots = m.slots[:m.firstSlot]
	last := len(m.callers) - 1
	if last < 0 {
		m.over = true
		return
	}
	m.frame = m.callers[last]
	m.callers = m.callers[:last]
	m.toEnd(m.at)
}

// take takes the last word.
func (m *machine) take() uint64 {
	last := len(m.words) - 1
	word := m.words[last]
	m.words = m.words[:last]
	return word
}

func (m *machine) put(word uint64) { m.words = append(m.words, word) }
