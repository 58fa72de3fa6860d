package heap

import (
	"slices"
	"testing"

	"trammel/api"
)

// plain is the second reading of the chapter: it keeps the calls that were made and changed something, nothing else, and works
// each answer out of these anew.
type plain struct {
	limit int
	past  []call
}

func newPlain(limit int) *plain {
	switch {
	case limit < 0:
		return &plain{limit: 0}
	case limit > api.MaxHeap:
		return &plain{limit: api.MaxHeap}
	}
	return &plain{limit: limit}
}

// did keeps a call, with words of its own.
func (p *plain) did(c call) {
	c.words = slices.Clone(c.words)
	p.past = append(p.past, c)
}

// cost tells what a call costs that was done.
func cost(c call) int {
	switch c.do {
	case "Text":
		n := 1
		for at := 0; at < len(c.text); at += 8 {
			n++
		}
		return n
	case "Record":
		return 1 + len(c.words)
	case "Fill":
		return 1 + int(c.n)
	case "Empty", "Push":
		return 1
	}
	return 0
}

func (p *plain) Used() int {
	sum := 0
	for _, c := range p.past {
		sum += cost(c)
	}
	return sum
}

// made does a call that makes something, if it may be paid.
func (p *plain) made(c call) (uint64, int) {
	if p.Used()+cost(c) > p.limit {
		return 0, api.TrapMemory
	}
	p.did(c)
	n := uint64(0)
	for _, old := range p.past {
		if old.makes() {
			n++
		}
	}
	return n, api.TrapNone
}

func (p *plain) Const(s string) uint64 {
	ref, _ := p.made(constant(s))
	return ref
}

func (p *plain) Text(s string) (uint64, int) {
	if len(s) > api.MaxText {
		return 0, api.TrapSize
	}
	return p.made(newOne(s))
}

func (p *plain) Record(t int, words []uint64) (uint64, int) { return p.made(record(t, words...)) }

func (p *plain) Fill(t, n int, word uint64) (uint64, int) {
	if n < 0 || n > api.MaxArray {
		return 0, api.TrapSize
	}
	return p.made(fill(t, n, word))
}

func (p *plain) Empty(t int) (uint64, int) { return p.made(empty(t)) }

// birth tells the call that made the thing of a reference.
func (p *plain) birth(ref uint64) (call, bool) {
	n := uint64(0)
	for _, c := range p.past {
		if c.makes() {
			n++
		}
		if c.makes() && n == ref {
			return c, true
		}
	}
	return call{}, false
}

// now tells the words that a thing has by now.
func (p *plain) now(ref uint64) []uint64 {
	c, _ := p.birth(ref)
	list := slices.Clone(c.words)
	for range c.n {
		list = append(list, c.word)
	}
	for _, c := range p.past {
		switch {
		case c.ref != ref:
		case c.do == "Set":
			list[c.n] = c.word
		case c.do == "Push":
			list = append(list, c.word)
		case c.do == "Drop":
			list = list[:len(list)-1]
		}
	}
	return list
}

func (p *plain) Bytes(ref uint64) (string, bool) {
	c, _ := p.birth(ref)
	return c.text, c.do == "Const" || c.do == "Text"
}

func (p *plain) Type(ref uint64) int {
	if _, is := p.Bytes(ref); is {
		return api.Text
	}
	c, _ := p.birth(ref)
	return c.typ
}

func (p *plain) Len(ref uint64) (int, bool) {
	c, has := p.birth(ref)
	return len(c.text) + len(p.now(ref)), has
}

func (p *plain) Get(ref uint64, i int64) (uint64, int) {
	for at, w := range p.now(ref) {
		if int64(at) == i {
			return w, api.TrapNone
		}
	}
	return 0, api.TrapIndex
}

func (p *plain) Set(ref uint64, i int64, word uint64) int {
	if _, trap := p.Get(ref, i); trap != api.TrapNone {
		return trap
	}
	p.did(set(ref, i, word))
	return api.TrapNone
}

func (p *plain) Push(ref, word uint64) int {
	switch c, _ := p.birth(ref); {
	case c.do != "Empty":
		return api.TrapIndex
	case len(p.now(ref)) >= api.MaxArray:
		return api.TrapSize
	case p.Used() >= p.limit:
		return api.TrapMemory
	}
	p.did(push(ref, word))
	return api.TrapNone
}

func (p *plain) Drop(ref uint64) (uint64, int) {
	c, _ := p.birth(ref)
	list := p.now(ref)
	switch {
	case c.do != "Empty":
		return 0, api.TrapIndex
	case len(list) == 0:
		return 0, api.TrapEmpty
	}
	p.did(drop(ref))
	return list[len(list)-1], api.TrapNone
}

// Rows of calls made at will, on two heaps in turn, answer what the second reading says.
func TestP10_8AtWill(t *testing.T) {
	met := make(map[string]int)
	for seed := range 300 {
		m := newAuthor(int64(seed))
		limits := []int{m.Intn(200) - 5, m.Intn(60)}
		heaps := []*Heap{New(limits[0]), New(limits[1])}
		plains := []*plain{newPlain(limits[0]), newPlain(limits[1])}
		things := []int{0, 0}
		for i := range 200 {
			at := m.Intn(2)
			c := m.call(things[at])
			got, want := answer(heaps[at], c), answer(plains[at], c)
			if got != want {
				t.Fatalf("seed %d, call %d, %s on %d: %s, want %s", seed, i, c, at, got, want)
			}
			if c.makes() && !c.refused(got) {
				things[at]++
			}
			met[c.do+kind(c, got)]++
		}
		for at, h := range heaps {
			if got, want := seen(h, things[at]), seen(plains[at], things[at]); got != want {
				t.Fatalf("seed %d, heap %d: %s, want %s", seed, at, got, want)
			}
		}
	}
	for _, key := range []string{"Const", "Text", "Text 4", "Record", "Record 4", "Fill", "Fill 3", "Fill 4", "Empty", "Empty 4", "Bytesfalse", "Bytes",
		"Lenfalse", "Len", "Get", "Get 2", "Set", "Set2", "Push", "Push2", "Push4", "Drop", "Drop 2", "Drop 7"} {
		if met[key] < 100 {
			t.Errorf("%q: met %d times", key, met[key])
		}
	}
}

// kind tells of an answer only whether it is a refusal, and which.
func kind(c call, got string) string {
	switch {
	case c.refused(got) && len(got) == 1:
		return got
	case c.refused(got):
		return got[len(got)-2:]
	case got == noText || got == noLen:
		return "false"
	}
	return ""
}

// Rows of few calls, all of them: nothing that they do to one another is met at will only.
func TestP10_8AllShortRows(t *testing.T) {
	calls := []call{constant("a"), newOne("b"), record(5, 7), fill(16, 1, 8), empty(17), set(1, 0, 9), push(1, 3), push(2, 4), drop(1), drop(2)}
	for limit := range 5 {
		all(t, calls, limit, 4, nil)
	}
}

// all plays every row of calls that begins so on a heap and on the second reading.
func all(t *testing.T, calls []call, limit, more int, row []call) {
	if more == 0 {
		h, p := New(limit), newPlain(limit)
		for i, c := range row {
			if got, want := answer(h, c), answer(p, c); got != want {
				t.Fatalf("limit %d, %v, call %d: %s, want %s", limit, row, i, got, want)
			}
		}
		for ref := range uint64(3) {
			if got, want := ofThing(h, ref), ofThing(p, ref); got != want {
				t.Fatalf("limit %d, %v: %s, want %s", limit, row, got, want)
			}
		}
		return
	}
	for _, c := range calls {
		all(t, calls, limit, more-1, append(row, c))
	}
}
