package heap

import (
	"fmt"
	"math"
	"strings"
	"testing"

	"trammel/api"
)

// The examples of the chapter; one heap goes through all of them.
func TestP10_8Examples(t *testing.T) {
	holds(t, New(10),
		told{constant("abc"), "1"}, told{used(), "0"}, told{newOne("abcdefghi"), "2 0"}, told{used(), "3"},
		told{record(16, 5, 6), "3 0"}, told{used(), "6"}, told{get(3, 1), "6 0"}, told{get(3, 2), noIndex}, told{set(3, 0, 9), done}, told{get(3, 0), "9 0"},
		told{empty(17), "4 0"}, told{push(4, 1), done}, told{push(4, 2), done}, told{used(), "9"}, told{push(4, 3), done}, told{push(4, 4), onMemory},
		told{drop(4), "3 0"}, told{lenOf(4), "2 true"}, told{push(4, 5), onMemory}, told{drop(4), "2 0"}, told{drop(4), "1 0"}, told{drop(4), noMore},
		told{fill(18, -1, 0), noSize}, told{fill(18, 65537, 0), noSize}, told{fill(18, 0, 7), noMemory}, told{push(2, 0), onIndex}, told{get(1, 0), noIndex},
		told{typeIs(1), "5"}, told{typeIs(9), "0"}, told{bytesOf(3), noText})
}

func TestP10_1New(t *testing.T) {
	h, other := New(10), New(10)
	if h == nil || h == other {
		t.Fatal("New: no new heap")
	}
	nothing := seen(New(3), 5)
	if got := seen(h, 5); got != nothing {
		t.Errorf("an empty heap: %s, want %s", got, nothing)
	}
	for ref := range uint64(3) {
		holds(t, h, told{typeIs(ref), "0"}, told{lenOf(ref), noLen}, told{bytesOf(ref), noText}, told{get(ref, 0), noIndex},
			told{set(ref, 0, 1), onIndex}, told{push(ref, 1), onIndex}, told{drop(ref), noIndex}, told{used(), "0"})
	}
	holds(t, h, told{constant("a"), "1"}, told{empty(7), "2 0"}, told{push(2, 1), done})
	if got := seen(other, 5); got != nothing {
		t.Errorf("beside a heap in which things were made: %s, want %s", got, nothing)
	}
}

// comes holds a heap to its limit: Used comes to it, and no call gets it past it.
func comes(t *testing.T, limit, want int) {
	t.Helper()
	h := New(limit)
	spend(t, h, want)
	if want > 0 {
		h = New(limit)
		spend(t, h, want-1)
		if trap := answer(h, record(1, 2)); trap != noMemory { // costs 2
			t.Errorf("limit %d: a record of 1 behind %d: %s", limit, want-1, trap)
		}
		spend(t, h, 1)
	}
	holds(t, h, told{used(), fmt.Sprint(want)}, told{newOne(""), noMemory}, told{newOne("a"), noMemory}, told{record(16), noMemory}, told{record(16, 1), noMemory},
		told{fill(16, 0, 1), noMemory}, told{fill(16, api.MaxArray, 1), noMemory}, told{empty(16), noMemory}, told{used(), fmt.Sprint(want)})
	if ref := h.Const("free"); ref == 0 || h.Used() != want {
		t.Errorf("limit %d: Const behind all: %d, Used %d", limit, ref, h.Used())
	}
}

func TestP10_1Limit(t *testing.T) {
	for limit := range 40 {
		comes(t, limit, limit)
	}
	for _, limit := range []int{math.MinInt, math.MinInt32, -api.MaxHeap, -2, -1} {
		comes(t, limit, 0)
	}
	for _, limit := range []int{api.MaxHeap - 1, api.MaxArray, api.MaxHeap} {
		comes(t, limit, limit)
	}
	for _, limit := range []int{api.MaxHeap + 1, 2 * api.MaxHeap, math.MaxInt32, 1 << 32, math.MaxInt - 1, math.MaxInt} {
		comes(t, limit, api.MaxHeap)
	}
}

// every is each kind of call with what it may be handed at an edge.
func every() []call {
	long := strings.Repeat("x", api.MaxText+1)
	list := []call{newOne(""), newOne("a"), newOne(long[1:]), newOne(long), record(16), record(16, 1, 2), empty(16), empty(-1)}
	for _, n := range []int{math.MinInt, -1, 0, 1, api.MaxArray, api.MaxArray + 1, math.MaxInt} {
		list = append(list, fill(16, n, 3))
	}
	for _, ref := range []uint64{0, 1, 2, 1 << 32, math.MaxInt64, 1 << 63, math.MaxUint64} {
		list = append(list, push(ref, 4), drop(ref))
		for _, i := range []int64{math.MinInt64, -1, 0, 1, math.MaxInt64} {
			list = append(append(list, set(ref, i, 5)), ask(ref, i)...)
		}
	}
	return list
}

func TestP10_1NilAndZero(t *testing.T) {
	var zero Heap
	for name, h := range map[string]*Heap{"nil": nil, "zero": &zero} {
		for range 2 { // the second time, since nothing of the first one may be kept
			for _, c := range every() {
				if got, want := answer(h, c), answer(New(0), c); got != want {
					t.Errorf("%s heap: %s: %s, want %s", name, c, got, want)
				}
			}
			for _, s := range []string{"", "a", strings.Repeat("x", api.MaxText+1)} {
				holds(t, h, told{constant(s), "0"})
			}
			if got, want := seen(h, 3), seen(New(0), 3); got != want {
				t.Errorf("%s heap: %s, want %s", name, got, want)
			}
		}
	}
	var none *Heap
	holds(t, none, told{newOne(""), noMemory}, told{newOne(strings.Repeat("x", api.MaxText+1)), noSize}, told{record(1), noMemory}, told{fill(1, -1, 0), noSize},
		told{fill(1, 0, 0), noMemory}, told{empty(1), noMemory}, told{push(1, 0), onIndex}, told{drop(1), noIndex}, told{set(1, 0, 0), onIndex}, told{used(), "0"})
	holds(t, New(0), told{constant("a"), "1"}, told{bytesOf(1), `"a" true`}, told{constant(""), "2"}, told{bytesOf(2), `"" true`}, told{used(), "0"})
}

// texts are such of the edges' lengths, and one of all bytes.
func texts() []string {
	var list []string
	for n := range 70 {
		list = append(list, strings.Repeat("é\x00", n)[:n])
	}
	bytes := make([]byte, 256)
	for i := range bytes {
		bytes[i] = byte(i)
	}
	return append(list, string(bytes), strings.Repeat("y", api.MaxText-1), strings.Repeat("z", api.MaxText))
}

func TestP10_2Const(t *testing.T) {
	for _, limit := range []int{0, 5, api.MaxHeap} {
		h := New(limit)
		list := append(texts(), strings.Repeat("w", api.MaxText+1), strings.Repeat("v", 20*api.MaxText), "", "a", "a")
		for i, s := range list {
			if ref := h.Const(s); ref != uint64(i+1) {
				t.Fatalf("Const of %d bytes: %d, want %d", len(s), ref, i+1)
			}
		}
		for i, s := range list {
			if got, ok := h.Bytes(uint64(i + 1)); got != s || !ok {
				t.Errorf("Bytes of %d bytes: %d bytes, %t", len(s), len(got), ok)
			}
			holds(t, h, told{lenOf(uint64(i + 1)), fmt.Sprint(len(s), true)}, told{typeIs(uint64(i + 1)), "5"})
		}
		holds(t, h, told{used(), "0"})
	}
}

func TestP10_2Text(t *testing.T) {
	h, sum := New(api.MaxHeap), 0
	for i, s := range texts() {
		ref, trap := h.Text(s)
		sum += 1 + int(math.Ceil(float64(len(s))/8))
		if ref != uint64(i+1) || trap != api.TrapNone || h.Used() != sum {
			t.Fatalf("Text of %d bytes: %d, trap %d, Used %d, want %d", len(s), ref, trap, h.Used(), sum)
		}
		if got, ok := h.Bytes(ref); got != s || !ok {
			t.Errorf("Bytes of %d bytes: %d bytes, %t", len(s), len(got), ok)
		}
		holds(t, h, told{lenOf(ref), fmt.Sprint(len(s), true)}, told{typeIs(ref), "5"})
	}
	before := h.Used()
	for _, n := range []int{api.MaxText + 1, api.MaxText + 8, 2 * api.MaxText, 9 * api.MaxHeap} {
		holds(t, h, told{newOne(strings.Repeat("x", n)), noSize}, told{used(), fmt.Sprint(before)})
	}
}

// What texts cost is told by the least limit that lets them be made.
func TestP10_2TextLimit(t *testing.T) {
	for n, words := range map[int]int{0: 1, 1: 2, 7: 2, 8: 2, 9: 3, 15: 3, 16: 3, 17: 4, 64: 9, 65: 10, api.MaxText - 8: 8192, api.MaxText - 7: 8193, api.MaxText: 8193} {
		s := strings.Repeat("q", n)
		for _, ahead := range []int{0, 1, 5} {
			h := New(ahead + words)
			spend(t, h, ahead)
			refs := uint64(min(ahead, 1))
			holds(t, h, told{newOne(s), fmt.Sprint(refs+1, 0)}, told{used(), fmt.Sprint(ahead + words)}, told{newOne(""), noMemory}, told{newOne(s), noMemory})
			h = New(ahead + words - 1)
			spend(t, h, ahead)
			holds(t, h, told{newOne(s), noMemory}, told{used(), fmt.Sprint(ahead)}, told{lenOf(refs + 1), noLen}, told{constant(s), fmt.Sprint(refs + 1)})
		}
	}
	long := strings.Repeat("q", api.MaxText+1)
	for _, limit := range []int{-1, 0, 1, 8193, 8194} { // the size is told, though the memory is too small as well
		holds(t, New(limit), told{newOne(long), noSize}, told{used(), "0"})
	}
}

func TestP10_2Bytes(t *testing.T) {
	h := New(100)
	holds(t, h, told{constant("a\"\xff"), "1"}, told{newOne("bc"), "2 0"}, told{record(api.Text, 97), "3 0"}, told{fill(api.Text, 2, 98), "4 0"},
		told{empty(api.Text), "5 0"}, told{constant(""), "6"}, told{newOne(""), "7 0"},
		told{bytesOf(1), `"a\"\xff" true`}, told{bytesOf(2), `"bc" true`}, told{bytesOf(6), `"" true`}, told{bytesOf(7), `"" true`},
		told{bytesOf(0), noText}, told{bytesOf(3), noText}, told{bytesOf(4), noText}, told{bytesOf(5), noText}, told{bytesOf(8), noText})
	for _, n := range ends {
		holds(t, h, told{bytesOf(uint64(n)), noText})
	}
	holds(t, h, told{bytesOf(1<<32 + 1), noText}, told{bytesOf(1<<63 + 1), noText}, told{bytesOf(1<<63 + 2), noText})
}

func TestP10_3Record(t *testing.T) {
	h, sum := New(api.MaxHeap), 0
	for n := range 40 {
		words := make([]uint64, n)
		for i := range words {
			words[i] = uint64(n*100+i) << 40
		}
		ref, trap := h.Record(n-5, words)
		sum += 1 + n
		if ref != uint64(n+1) || trap != api.TrapNone || h.Used() != sum {
			t.Fatalf("Record of %d: %d, trap %d, Used %d, want %d", n, ref, trap, h.Used(), sum)
		}
		for i, w := range words {
			holds(t, h, told{get(ref, int64(i)), fmt.Sprint(w, 0)})
		}
		holds(t, h, told{lenOf(ref), fmt.Sprint(n, true)}, told{typeIs(ref), fmt.Sprint(n - 5)}, told{get(ref, int64(n)), noIndex}, told{get(ref, -1), noIndex})
	}
	holds(t, h, told{call{do: "Record", typ: 3, words: nil}, "41 0"}, told{lenOf(41), "0 true"}, told{get(41, 0), noIndex}, told{set(41, 0, 1), onIndex}, told{used(), fmt.Sprint(sum + 1)})
}

// A record's words are bounded by the limit alone.
func TestP10_3RecordLimit(t *testing.T) {
	for _, n := range []int{0, 1, 2, 31, api.MaxFields + 1, api.MaxArray, api.MaxArray + 1, api.MaxHeap - 1} {
		words := make([]uint64, n)
		h := New(n + 1)
		holds(t, h, told{record(16, words...), "1 0"}, told{lenOf(1), fmt.Sprint(n, true)}, told{used(), fmt.Sprint(n + 1)}, told{record(16), noMemory})
		holds(t, New(n), told{record(16, words...), noMemory}, told{used(), "0"}, told{lenOf(1), noLen}, told{constant(""), "1"})
	}
	for _, n := range []int{api.MaxHeap, api.MaxHeap + 1, 2 * api.MaxHeap} {
		holds(t, New(math.MaxInt), told{record(16, make([]uint64, n)...), noMemory}, told{used(), "0"})
	}
}

func TestP10_3Fill(t *testing.T) {
	h, sum := New(api.MaxHeap), 0
	for at, n := range []int{0, 1, 2, 3, 100, api.MaxArray - 1, api.MaxArray} {
		ref, trap := h.Fill(at-3, n, math.MaxUint64-uint64(at))
		sum += 1 + n
		if ref != uint64(at+1) || trap != api.TrapNone || h.Used() != sum {
			t.Fatalf("Fill of %d: %d, trap %d, Used %d, want %d", n, ref, trap, h.Used(), sum)
		}
		for i := range n {
			if w, trap := h.Get(ref, int64(i)); w != math.MaxUint64-uint64(at) || trap != api.TrapNone {
				t.Fatalf("Fill of %d, Get %d: %d, trap %d", n, i, w, trap)
			}
		}
		holds(t, h, told{lenOf(ref), fmt.Sprint(n, true)}, told{typeIs(ref), fmt.Sprint(at - 3)}, told{get(ref, int64(n)), noIndex}, told{push(ref, 1), onIndex}, told{drop(ref), noIndex})
	}
	for _, n := range []int{-1, -2, math.MinInt, math.MinInt32, api.MaxArray + 1, api.MaxArray + 2, 1 << 32, 1<<32 + 1, math.MaxInt - 1, math.MaxInt} {
		holds(t, h, told{fill(16, n, 1), noSize}, told{used(), fmt.Sprint(sum)})
		holds(t, New(0), told{fill(16, n, 1), noSize}) // the size is told, though the memory is too small as well
	}
	for _, n := range []int{0, 1, 5, api.MaxArray} {
		holds(t, New(n+1), told{fill(16, n, 1), "1 0"}, told{used(), fmt.Sprint(n + 1)}, told{fill(16, 0, 1), noMemory})
		holds(t, New(n), told{fill(16, n, 1), noMemory}, told{used(), "0"}, told{typeIs(1), "0"}, told{constant(""), "1"})
	}
}

func TestP10_3Empty(t *testing.T) {
	h := New(3)
	holds(t, h, told{empty(18), "1 0"}, told{used(), "1"}, told{lenOf(1), "0 true"}, told{typeIs(1), "18"}, told{get(1, 0), noIndex}, told{set(1, 0, 1), onIndex},
		told{drop(1), noMore}, told{empty(18), "2 0"}, told{empty(18), "3 0"}, told{used(), "3"}, told{empty(18), noMemory}, told{lenOf(4), noLen}, told{used(), "3"})
}

// Types are any numbers, and tell nothing of what a thing is.
func TestP10_4Type(t *testing.T) {
	types := []int{0, 1, api.Text, api.FirstType, -1, 1 << 32, math.MinInt, math.MaxInt, math.MaxInt32 + 1}
	for _, typ := range types {
		h := New(20)
		name := fmt.Sprint(typ)
		holds(t, h, told{record(typ, 7), "1 0"}, told{fill(typ, 1, 8), "2 0"}, told{empty(typ), "3 0"}, told{constant("a"), "4"}, told{newOne("b"), "5 0"},
			told{typeIs(1), name}, told{typeIs(2), name}, told{typeIs(3), name}, told{typeIs(4), "5"}, told{typeIs(5), "5"}, told{typeIs(6), "0"}, told{typeIs(0), "0"},
			told{push(1, 0), onIndex}, told{push(2, 0), onIndex}, told{push(3, 9), done}, told{push(4, 0), onIndex}, told{push(5, 0), onIndex},
			told{get(1, 0), "7 0"}, told{get(2, 0), "8 0"}, told{get(3, 0), "9 0"}, told{get(4, 0), noIndex}, told{get(5, 0), noIndex},
			told{bytesOf(1), noText}, told{bytesOf(2), noText}, told{bytesOf(3), noText}, told{bytesOf(4), `"a" true`}, told{bytesOf(5), `"b" true`},
			told{drop(3), "9 0"}, told{typeIs(3), name})
	}
}

func TestP10_4Len(t *testing.T) {
	h := New(100)
	holds(t, h, told{constant(""), "1"}, told{constant("é"), "2"}, told{newOne("123456789"), "3 0"}, told{record(16), "4 0"}, told{record(16, 1, 2, 3), "5 0"},
		told{fill(17, 0, 1), "6 0"}, told{fill(17, 4, 1), "7 0"}, told{empty(18), "8 0"},
		told{lenOf(1), "0 true"}, told{lenOf(2), "2 true"}, told{lenOf(3), "9 true"}, told{lenOf(4), "0 true"}, told{lenOf(5), "3 true"},
		told{lenOf(6), "0 true"}, told{lenOf(7), "4 true"}, told{lenOf(8), "0 true"})
	for n := 1; n < 10; n++ {
		holds(t, h, told{push(8, 0), done}, told{lenOf(8), fmt.Sprint(n, true)})
	}
	holds(t, h, told{drop(8), "0 0"}, told{lenOf(8), "8 true"}, told{set(5, 2, 0), done}, told{lenOf(5), "3 true"})
	for _, ref := range []uint64{0, 9, 10, 1 << 32, 1<<32 + 5, 1<<63 + 5, math.MaxInt64, 1 << 63, math.MaxUint64} {
		holds(t, h, told{lenOf(ref), noLen}, told{typeIs(ref), "0"})
	}
}

// A reference means nothing till it is given out.
func TestP10_4NotGivenOut(t *testing.T) {
	h := New(100)
	for ref := uint64(1); ref < 20; ref++ {
		holds(t, h, told{lenOf(ref), noLen}, told{typeIs(ref), "0"}, told{push(ref, 1), onIndex}, told{drop(ref), noIndex}, told{get(ref, 0), noIndex}, told{set(ref, 0, 1), onIndex},
			told{empty(int(ref)), fmt.Sprint(ref, 0)}, told{lenOf(ref), "0 true"}, told{typeIs(ref), fmt.Sprint(ref)}, told{push(ref, 1), done}, told{lenOf(ref), "1 true"})
	}
}
