package heap

import (
	"fmt"
	"math"
	"math/rand"
	"strings"
	"testing"

	"trammel/api"
)

// heaped is what a heap and the second reading of the chapter have in common.
type heaped interface {
	Used() int
	Const(s string) uint64
	Text(s string) (uint64, int)
	Bytes(ref uint64) (string, bool)
	Record(t int, words []uint64) (uint64, int)
	Fill(t, n int, word uint64) (uint64, int)
	Empty(t int) (uint64, int)
	Type(ref uint64) int
	Len(ref uint64) (int, bool)
	Get(ref uint64, i int64) (uint64, int)
	Set(ref uint64, i int64, word uint64) int
	Push(ref, word uint64) int
	Drop(ref uint64) (uint64, int)
}

// call is one call of a heap with what it is handed; what a call does not take stands at zero.
type call struct {
	do    string
	text  string
	typ   int
	n     int64 // how many, or the number of a word
	ref   uint64
	word  uint64
	words []uint64
}

func (c call) String() string {
	return fmt.Sprintf("%s(text %.20q of %d, type %d, n %d, ref %d, word %d, words %d)", c.do, c.text, len(c.text), c.typ, c.n, c.ref, c.word, c.words)
}

// The calls, written as the chapter's examples write them.
func used() call                             { return call{do: "Used"} }
func constant(s string) call                 { return call{do: "Const", text: s} }
func newOne(s string) call                   { return call{do: "Text", text: s} }
func bytesOf(ref uint64) call                { return call{do: "Bytes", ref: ref} }
func record(t int, words ...uint64) call     { return call{do: "Record", typ: t, words: words} }
func fill(t, n int, word uint64) call        { return call{do: "Fill", typ: t, n: int64(n), word: word} }
func empty(t int) call                       { return call{do: "Empty", typ: t} }
func typeIs(ref uint64) call                 { return call{do: "Type", ref: ref} }
func lenOf(ref uint64) call                  { return call{do: "Len", ref: ref} }
func get(ref uint64, i int64) call           { return call{do: "Get", ref: ref, n: i} }
func set(ref uint64, i int64, w uint64) call { return call{do: "Set", ref: ref, n: i, word: w} }
func push(ref, w uint64) call                { return call{do: "Push", ref: ref, word: w} }
func drop(ref uint64) call                   { return call{do: "Drop", ref: ref} }

// answer does a call, and tells what it answers, one answer behind the other.
func answer(h heaped, c call) string {
	switch c.do {
	case "Used":
		return fmt.Sprint(h.Used())
	case "Const":
		return fmt.Sprint(h.Const(c.text))
	case "Text":
		return fmt.Sprint(h.Text(c.text))
	case "Bytes":
		s, ok := h.Bytes(c.ref)
		return fmt.Sprintf("%q %t", s, ok)
	case "Record":
		return fmt.Sprint(h.Record(c.typ, c.words))
	case "Fill":
		return fmt.Sprint(h.Fill(c.typ, int(c.n), c.word))
	case "Empty":
		return fmt.Sprint(h.Empty(c.typ))
	case "Type":
		return fmt.Sprint(h.Type(c.ref))
	case "Len":
		return fmt.Sprint(h.Len(c.ref))
	case "Get":
		return fmt.Sprint(h.Get(c.ref, c.n))
	case "Set":
		return fmt.Sprint(h.Set(c.ref, c.n, c.word))
	case "Push":
		return fmt.Sprint(h.Push(c.ref, c.word))
	case "Drop":
		return fmt.Sprint(h.Drop(c.ref))
	}
	panic("no such call: " + c.do)
}

// told is a call and what it must answer.
type told struct {
	call
	want string
}

// holds does calls one behind the other, and holds each to its answer.
func holds(t *testing.T, h heaped, list ...told) {
	t.Helper()
	for i, c := range list {
		if got := answer(h, c.call); got != c.want {
			t.Errorf("call %d, %s: %.100s, want %.100s", i, c.call, got, c.want)
		}
	}
}

// Traps that are told alone, with a zero ahead of them, and what is told of nothing.
const (
	done     = "0"
	onIndex  = "2"
	onSize   = "3"
	onMemory = "4"
	noIndex  = "0 2"
	noSize   = "0 3"
	noMemory = "0 4"
	noMore   = "0 7"
	noText   = `"" false`
	noLen    = "0 false"
)

// ends are numbers about which a reference or the number of a word may be cut short or turn round.
var ends = []int64{math.MinInt64, math.MinInt64 + 1, math.MinInt32, -2, -1, math.MaxInt8 + 1, math.MaxInt32, 1 << 31, 1 << 32, 1<<32 + 1, math.MaxInt64 - 1, math.MaxInt64}

// seen tells all that a heap tells of its first references, and of what lies behind them, without being changed.
func seen(h heaped, refs int) string {
	var all strings.Builder
	all.WriteString(answer(h, used()))
	for ref := range uint64(refs + 2) {
		all.WriteString(ofThing(h, ref))
	}
	for _, n := range ends {
		all.WriteString(ofThing(h, uint64(n)))
	}
	return all.String()
}

// ofThing tells all that a heap tells of one reference.
func ofThing(h heaped, ref uint64) string {
	all := fmt.Sprintf("[%d: %s, %s, %s:", ref, answer(h, typeIs(ref)), answer(h, lenOf(ref)), answer(h, bytesOf(ref)))
	n, _ := h.Len(ref)
	for i := int64(-1); i <= int64(n); i++ {
		all += " " + answer(h, get(ref, i))
	}
	return all + "]"
}

// ask are calls that only ask, of each kind.
func ask(ref uint64, i int64) []call {
	return []call{used(), bytesOf(ref), typeIs(ref), lenOf(ref), get(ref, i)}
}

// spend makes one thing and elements of it, so that Used rises by just so much.
func spend(t *testing.T, h heaped, words int) {
	t.Helper()
	for words > 0 {
		n := min(words-1, api.MaxArray)
		if _, trap := h.Fill(99, n, 0); trap != api.TrapNone {
			t.Fatalf("Fill of %d: trap %d at %d", n, trap, h.Used())
		}
		words -= n + 1
	}
}

// author makes calls at will.
type author struct{ *rand.Rand }

func newAuthor(seed int64) author { return author{rand.New(rand.NewSource(seed))} }

// text makes a text whose length is mostly about a word's.
func (m author) text() string {
	b := make([]byte, m.Intn(20))
	for i := range b {
		b[i] = byte(m.Intn(256))
	}
	return string(b)
}

// typ makes a type: any number, that of texts often, since things that are none may have it.
func (m author) typ() int {
	switch m.Intn(4) {
	case 0:
		return api.Text
	case 1:
		return int(ends[m.Intn(len(ends))])
	}
	return m.Intn(24) - 2
}

// word makes one: a number that may be taken for a reference, or any.
func (m author) word() uint64 {
	if m.Intn(3) == 0 {
		return m.Uint64()
	}
	return m.Uint64() % 8
}

// ref makes a reference: of one of so many things mostly.
func (m author) ref(things int) uint64 {
	switch m.Intn(12) {
	case 0:
		return uint64(ends[m.Intn(len(ends))])
	case 1:
		return uint64(m.Intn(things+1)) + 1<<32
	case 2:
		return uint64(things + m.Intn(3))
	}
	return uint64(1 + m.Intn(things+1))
}

// number makes that of a word.
func (m author) number() int64 {
	switch m.Intn(8) {
	case 0:
		return ends[m.Intn(len(ends))]
	case 1:
		return int64(m.Intn(4)) + 1<<32
	}
	return int64(m.Intn(6) - 1)
}

func (m author) words() []uint64 {
	list := make([]uint64, m.Intn(5))
	for i := range list {
		list[i] = m.word()
	}
	return list
}

// call makes a call to a heap that has given out so many references.
func (m author) call(things int) call {
	ref := m.ref(things)
	switch m.Intn(20) {
	case 0:
		return constant(m.text())
	case 1:
		return newOne(m.text())
	case 2:
		return record(m.typ(), m.words()...)
	case 3:
		return fill(m.typ(), m.Intn(7)-2, m.word())
	case 4, 5:
		return empty(m.typ())
	case 6, 7:
		return set(ref, m.number(), m.word())
	case 8, 9, 10:
		return push(ref, m.word())
	case 11, 12:
		return drop(ref)
	case 13:
		return used()
	case 14:
		return bytesOf(ref)
	case 15:
		return typeIs(ref)
	case 16:
		return lenOf(ref)
	}
	return get(ref, m.number())
}

// makes tells whether a call makes a thing, if it is not refused.
func (c call) makes() bool {
	switch c.do {
	case "Const", "Text", "Record", "Fill", "Empty":
		return true
	}
	return false
}

// refused tells whether an answer has a trap.
func (c call) refused(got string) bool {
	switch c.do {
	case "Text", "Record", "Fill", "Empty", "Get", "Drop":
		return !strings.HasSuffix(got, " 0")
	case "Set", "Push":
		return got != done
	}
	return false
}
