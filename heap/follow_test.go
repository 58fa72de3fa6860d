package heap

import (
	"fmt"
	"strings"
	"testing"

	"trammel/api"
)

// Used never falls, never passes the limit, and stays where a call is refused, or asks, sets or drops.
func TestP10_8Used(t *testing.T) {
	m := newAuthor(80)
	full := 0
	for range 300 {
		limit := m.Intn(80)
		h, things := New(limit), 0
		for range 200 {
			before := h.Used()
			c := m.call(things)
			got := answer(h, c)
			more := 0
			if !c.refused(got) {
				more = cost(c)
			}
			if c.makes() && !c.refused(got) {
				things++
			}
			if h.Used() != before+more || h.Used() > limit {
				t.Fatalf("%s, which answered %s: Used %d, before %d, limit %d", c, got, h.Used(), before, limit)
			}
		}
		if h.Used() == limit {
			full++
		}
	}
	if full < 100 {
		t.Errorf("%d heaps came to their limit", full)
	}
}

// What a call does to a thing is seen with its reference, and with no other; a call that is refused, or asks, does nothing.
func TestP10_8OneThing(t *testing.T) {
	m := newAuthor(81)
	met := make(map[string]int)
	for range 400 {
		h, things := New(20+m.Intn(100)), 0
		for range 100 {
			before := make([]string, things+1)
			for ref := range before {
				before[ref] = ofThing(h, uint64(ref))
			}
			c := m.call(things)
			got := answer(h, c)
			changes := !c.refused(got) && (c.do == "Set" || c.do == "Push" || c.do == "Drop")
			for ref, was := range before {
				if now := ofThing(h, uint64(ref)); now != was && !(changes && c.ref == uint64(ref)) {
					t.Fatalf("%s, which answered %s: %s, before %s", c, got, now, was)
				}
			}
			if changes {
				met[c.do]++
				sees(t, h, c, before[c.ref])
			}
			if c.makes() && !c.refused(got) {
				things++
				if got := ofThing(h, uint64(things)); got != born(c, things) {
					t.Fatalf("%s: %s, want %s", c, got, born(c, things))
				}
			}
		}
	}
	for _, do := range []string{"Set", "Push", "Drop"} {
		if met[do] < 100 {
			t.Errorf("%s: done %d times", do, met[do])
		}
	}
}

// sees holds a thing that was changed to what the call did.
func sees(t *testing.T, h *Heap, c call, before string) {
	t.Helper()
	n, _ := h.Len(c.ref)
	last := fmt.Sprint(c.word, 0)
	switch c.do {
	case "Set":
		holds(t, h, told{get(c.ref, c.n), last})
	case "Push":
		holds(t, h, told{get(c.ref, int64(n-1)), last})
	}
	if now := ofThing(h, c.ref); now == before && c.do != "Set" {
		t.Fatalf("%s: %s as before", c, now)
	}
}

// born tells what is told of a thing that was just made.
func born(c call, ref int) string {
	p := newPlain(api.MaxHeap)
	for range ref - 1 {
		p.Const("")
	}
	answer(p, c)
	return ofThing(p, uint64(ref))
}

// A heap with a greater limit answers the same, as long as the lesser one tells no TrapMemory.
func TestP10_8GreaterLimit(t *testing.T) {
	m := newAuthor(82)
	ended := 0
	for range 300 {
		limit := m.Intn(60)
		less, more := New(limit), New(limit+1+m.Intn(20))
		if m.Intn(10) == 0 {
			more = New(api.MaxHeap)
		}
		things := 0
		for i := range 300 {
			c := m.call(things)
			a, b := answer(less, c), answer(more, c)
			if a == noMemory || a == onMemory && c.do == "Push" {
				ended++
				break
			}
			if a != b {
				t.Fatalf("call %d, %s: %s, with a greater limit %s", i, c, a, b)
			}
			if c.makes() && !c.refused(a) {
				things++
			}
		}
	}
	if ended < 100 {
		t.Errorf("TrapMemory: told %d times", ended)
	}
}

// References rise by 1, whatever is made, and what is refused takes none.
func TestP10_8References(t *testing.T) {
	m := newAuthor(83)
	refused := 0
	for range 100 {
		h, next := New(m.Intn(100)), uint64(1)
		for range 200 {
			c := m.call(int(next) - 1)
			got := answer(h, c)
			switch {
			case !c.makes():
			case c.refused(got):
				refused++
				if !strings.HasPrefix(got, "0 ") {
					t.Fatalf("%s: %s", c, got)
				}
			default:
				if got != fmt.Sprint(next) && got != fmt.Sprint(next, 0) {
					t.Fatalf("%s: %s, want %d", c, got, next)
				}
				next++
			}
		}
	}
	if refused < 1000 {
		t.Errorf("%d things were refused", refused)
	}
	h := New(2)
	holds(t, h, told{newOne("123456789"), noMemory}, told{fill(1, -1, 0), noSize}, told{record(1, 2, 3), noMemory}, told{empty(1), "1 0"}, told{newOne("1"), noMemory}, told{constant("c"), "2"}, told{record(1), "3 0"}, told{empty(1), noMemory}, told{constant("c"), "4"})
}

// Things that cost nothing are bounded by nothing; the first ones stay as they are.
func TestP10_8ManyReferences(t *testing.T) {
	h := New(0)
	const many = 1 << 18
	for i := range uint64(many) {
		if ref := h.Const(fmt.Sprint(i)); ref != i+1 {
			t.Fatalf("Const: %d, want %d", ref, i+1)
		}
	}
	for i := range uint64(many) {
		if s, ok := h.Bytes(i + 1); s != fmt.Sprint(i) || !ok {
			t.Fatalf("Bytes of %d: %q, %t", i+1, s, ok)
		}
	}
	holds(t, h, told{bytesOf(many + 1), noText}, told{used(), "0"})
	h = New(api.MaxHeap)
	for i := range uint64(api.MaxHeap) {
		if ref, trap := h.Empty(int(i)); ref != i+1 || trap != api.TrapNone {
			t.Fatalf("Empty: %d, trap %d, want %d", ref, trap, i+1)
		}
	}
	holds(t, h, told{empty(1), noMemory}, told{used(), fmt.Sprint(api.MaxHeap)}, told{typeIs(api.MaxHeap), fmt.Sprint(api.MaxHeap - 1)})
}

// A row of calls answers the same whenever it is done anew.
func TestP10_8SameAgain(t *testing.T) {
	for seed := range 50 {
		m := newAuthor(int64(seed))
		a, b := New(60), New(60)
		for i := range 200 {
			c := m.call(10)
			if x, y := answer(a, c), answer(b, c); x != y {
				t.Fatalf("seed %d, call %d, %s: %s and %s", seed, i, c, x, y)
			}
		}
	}
}

// Any bytes, read as a row of calls, are answered as the second reading says.
func FuzzCalls(f *testing.F) {
	f.Add(10, []byte("\x00\x01\x02\x03\x04\x05\x06\x07\x08\x09\x0a\x0b\x0c\x0d"))
	f.Add(-1, []byte{4, 1, 7, 1, 2, 8, 1, 0})
	f.Fuzz(func(t *testing.T, limit int, row []byte) {
		h, p := New(limit), newPlain(limit)
		for i := 0; i+2 < len(row) && i < 600; i += 3 {
			ref, n := uint64(row[i+1])%16, int64(int8(row[i+2]))
			calls := []call{constant(string(row[i+1 : i+3])), newOne(string(row[i:])), record(int(n), ref, uint64(n)), fill(int(ref), int(n), ref), empty(int(n)), set(ref, n, uint64(n)), push(ref, uint64(n)), drop(ref), push(ref, ref)}
			for _, c := range append(ask(ref, n), calls[int(row[i])%len(calls)]) {
				if got, want := answer(h, c), answer(p, c); got != want {
					t.Fatalf("limit %d, call %d, %s: %s, want %s", limit, i, c, got, want)
				}
			}
		}
	})
}
