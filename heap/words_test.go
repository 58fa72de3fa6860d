package heap

import (
	"fmt"
	"math"
	"slices"
	"testing"

	"trammel/api"
)

// three makes a heap that has each kind of thing that has words, of three words: a record, a fixed array, one that grows; two texts of three bytes.
func three(t *testing.T) *Heap {
	t.Helper()
	h := New(100)
	holds(t, h, told{record(16, 10, 11, 12), "1 0"}, told{fill(17, 3, 20), "2 0"}, told{empty(18), "3 0"}, told{constant("abc"), "4"}, told{newOne("def"), "5 0"},
		told{push(3, 30), done}, told{push(3, 31), done}, told{push(3, 32), done})
	return h
}

func TestP10_5GetSet(t *testing.T) {
	h := three(t)
	want := [][]uint64{nil, {10, 11, 12}, {20, 20, 20}, {30, 31, 32}}
	same := func() {
		t.Helper()
		for ref := uint64(1); ref <= 3; ref++ {
			for i, w := range want[ref] {
				holds(t, h, told{get(ref, int64(i)), fmt.Sprint(w, 0)})
			}
			holds(t, h, told{lenOf(ref), "3 true"})
		}
		holds(t, h, told{bytesOf(4), `"abc" true`}, told{bytesOf(5), `"def" true`}, told{used(), "14"})
	}
	same()
	for ref := uint64(1); ref <= 3; ref++ {
		for i := range 3 {
			for _, w := range []uint64{0, 1, 1 << 31, 1 << 32, math.MaxInt64, 1 << 63, math.MaxUint64, ref*100 + uint64(i)} {
				want[ref][i] = w
				holds(t, h, told{set(ref, int64(i), w), done})
				same()
			}
		}
	}
	outside := append([]int64{3, 4, math.MinInt32 - 1, math.MaxInt32 + 1, 1<<32 + 2, math.MinInt64 + 2}, ends...)
	for ref := uint64(1); ref <= 3; ref++ {
		for _, i := range outside {
			holds(t, h, told{get(ref, i), noIndex}, told{set(ref, i, 1), onIndex})
		}
	}
	same()
}

// Of a text and of nothing there is no word at all.
func TestP10_5NoWords(t *testing.T) {
	h := three(t)
	before := seen(h, 5)
	refs := []uint64{0, 4, 5, 6, 7, 1 << 32, 1<<32 + 1, math.MaxInt64, 1 << 63, 1<<63 + 1, math.MaxUint64 - 1, math.MaxUint64}
	for _, ref := range refs {
		for _, i := range append([]int64{0, 1, 2, 3}, ends...) {
			holds(t, h, told{get(ref, i), noIndex}, told{set(ref, i, 1), onIndex})
		}
	}
	if after := seen(h, 5); after != before {
		t.Errorf("refused: %s, before %s", after, before)
	}
}

// Get and Set go by how long an array is now.
func TestP10_5Now(t *testing.T) {
	h := New(100)
	holds(t, h, told{empty(18), "1 0"}, told{get(1, 0), noIndex}, told{set(1, 0, 1), onIndex}, told{push(1, 5), done}, told{get(1, 0), "5 0"}, told{set(1, 0, 6), done}, told{get(1, 1), noIndex},
		told{push(1, 7), done}, told{get(1, 0), "6 0"}, told{get(1, 1), "7 0"}, told{drop(1), "7 0"}, told{get(1, 1), noIndex}, told{set(1, 1, 8), onIndex}, told{get(1, 0), "6 0"},
		told{push(1, 9), done}, told{get(1, 1), "9 0"}, told{set(1, 1, 3), done}, told{drop(1), "3 0"}, told{drop(1), "6 0"}, told{drop(1), noMore}, told{get(1, 0), noIndex}, told{set(1, 0, 8), onIndex})
}

func TestP10_6Push(t *testing.T) {
	h := three(t)
	before := seen(h, 5)
	for _, ref := range []uint64{0, 1, 2, 4, 5, 6, 1 << 32, 1<<32 + 3, math.MaxInt64, 1 << 63, 1<<63 + 3, math.MaxUint64} {
		holds(t, h, told{push(ref, 1), onIndex}, told{drop(ref), noIndex})
	}
	if after := seen(h, 5); after != before {
		t.Errorf("refused: %s, before %s", after, before)
	}
	for i := range 50 {
		holds(t, h, told{push(3, uint64(i)<<50), done}, told{used(), fmt.Sprint(15 + i)}, told{lenOf(3), fmt.Sprint(4+i, true)}, told{get(3, int64(3+i)), fmt.Sprint(uint64(i)<<50, 0)}, told{get(3, 2), "32 0"})
	}
}

// That it is no array that grows is told ahead of all else.
func TestP10_6PushWithoutMemory(t *testing.T) {
	h := New(api.MaxArray + 8)
	holds(t, h, told{record(16, 1, 2), "1 0"}, told{fill(17, api.MaxArray, 0), "2 0"}, told{empty(18), "3 0"}, told{constant("a"), "4"}, told{push(3, 9), done}, told{push(3, 8), done}, told{push(3, 7), done},
		told{used(), fmt.Sprint(api.MaxArray + 8)})
	for _, ref := range []uint64{0, 1, 2, 4, 5, math.MaxUint64} {
		holds(t, h, told{push(ref, 1), onIndex}, told{drop(ref), noIndex})
	}
	holds(t, h, told{push(3, 6), onMemory}, told{lenOf(3), "3 true"}, told{drop(3), "7 0"}, told{push(3, 6), onMemory}, told{lenOf(3), "2 true"}, told{get(3, 2), noIndex}, told{get(3, 1), "8 0"},
		told{used(), fmt.Sprint(api.MaxArray + 8)})
}

// upTo pushes onto the array of the reference 1, till it has so many elements: each its own number.
func upTo(t *testing.T, h *Heap, n int) {
	t.Helper()
	for i, _ := h.Len(1); i < n; i++ {
		if trap := h.Push(1, uint64(i)); trap != api.TrapNone {
			t.Fatalf("Push of element %d: trap %d at %d", i, trap, h.Used())
		}
	}
}

func TestP10_6PushToTheMost(t *testing.T) {
	for _, more := range []int{0, 1, 2, 1000} {
		h := New(1 + api.MaxArray + more)
		holds(t, h, told{empty(18), "1 0"})
		upTo(t, h, api.MaxArray)
		all := fmt.Sprint(1 + api.MaxArray)
		for range 2 { // the size is told, though the memory is too small as well, where no more was allowed
			holds(t, h, told{push(1, 7), onSize}, told{lenOf(1), fmt.Sprint(api.MaxArray, true)}, told{used(), all}, told{get(1, api.MaxArray), noIndex})
		}
		for i := range int64(api.MaxArray) {
			if w, trap := h.Get(1, i); w != uint64(i) || trap != api.TrapNone {
				t.Fatalf("Get %d: %d, trap %d", i, w, trap)
			}
		}
		holds(t, h, told{drop(1), fmt.Sprint(api.MaxArray-1, 0)}, told{used(), all})
		if more == 0 {
			holds(t, h, told{push(1, 8), onMemory}, told{lenOf(1), fmt.Sprint(api.MaxArray-1, true)})
			continue
		}
		holds(t, h, told{push(1, 8), done}, told{get(1, api.MaxArray-1), "8 0"}, told{push(1, 9), onSize}, told{used(), fmt.Sprint(2 + api.MaxArray)})
	}
}

// Memory is used up by pushes, whatever is dropped in between.
func TestP10_6DropGivesNothingBack(t *testing.T) {
	h := New(11)
	holds(t, h, told{empty(18), "1 0"})
	for i := range 10 {
		holds(t, h, told{push(1, uint64(i)), done}, told{used(), fmt.Sprint(i + 2)}, told{drop(1), fmt.Sprint(i, 0)}, told{used(), fmt.Sprint(i + 2)}, told{drop(1), noMore}, told{used(), fmt.Sprint(i + 2)})
	}
	holds(t, h, told{push(1, 1), onMemory}, told{lenOf(1), "0 true"}, told{drop(1), noMore}, told{empty(18), noMemory})
}

func TestP10_6Drop(t *testing.T) {
	h := New(api.MaxHeap)
	holds(t, h, told{empty(18), "1 0"}, told{drop(1), noMore})
	upTo(t, h, 300)
	for i := 299; i >= 0; i-- {
		holds(t, h, told{drop(1), fmt.Sprint(i, 0)}, told{lenOf(1), fmt.Sprint(i, true)}, told{get(1, int64(i)), noIndex}, told{used(), "301"})
	}
	for range 3 {
		holds(t, h, told{drop(1), noMore}, told{lenOf(1), "0 true"}, told{typeIs(1), "18"})
	}
	holds(t, h, told{push(1, 77), done}, told{lenOf(1), "1 true"}, told{get(1, 0), "77 0"}, told{drop(1), "77 0"}, told{drop(1), noMore})
}

// What was dropped does not come back, neither by Push nor by Set.
func TestP10_6PushBehindDrop(t *testing.T) {
	m := newAuthor(600)
	h := New(api.MaxHeap)
	holds(t, h, told{empty(18), "1 0"})
	var list []uint64
	for range 5000 {
		if m.Intn(2) == 0 && len(list) > 0 {
			holds(t, h, told{drop(1), fmt.Sprint(list[len(list)-1], 0)})
			list = list[:len(list)-1]
		} else {
			w := m.Uint64()
			holds(t, h, told{push(1, w), done})
			list = append(list, w)
		}
		at := m.Intn(len(list) + 1)
		if at < len(list) {
			holds(t, h, told{get(1, int64(at)), fmt.Sprint(list[at], 0)})
		} else {
			holds(t, h, told{get(1, int64(at)), noIndex}, told{set(1, int64(at), 5), onIndex})
		}
	}
}

func TestP10_7Copied(t *testing.T) {
	for n := range 20 {
		room := make([]uint64, n+5)
		for i := range room {
			room[i] = uint64(i + 1)
		}
		before := slices.Clone(room)
		words := room[:n]
		h := New(api.MaxHeap)
		for ref := range 3 {
			if got, trap := h.Record(16, words); got != uint64(ref+1) || trap != api.TrapNone {
				t.Fatalf("Record: %d, trap %d", got, trap)
			}
		}
		for i := range n {
			holds(t, h, told{set(1, int64(i), 500), done}) // seen neither by the caller nor in the other records
		}
		holds(t, h, told{set(1, int64(n), 500), onIndex}, told{push(1, 500), onIndex})
		if !slices.Equal(room, before) {
			t.Fatalf("what was handed in: %d, before %d", room, before)
		}
		for i := range room {
			room[i] = 900 // seen in no record
		}
		for i := range n {
			holds(t, h, told{get(1, int64(i)), "500 0"}, told{get(2, int64(i)), fmt.Sprint(i+1, 0)}, told{get(3, int64(i)), fmt.Sprint(i+1, 0)})
		}
		_, trap := New(n).Record(16, words)
		if trap != api.TrapMemory || !slices.Equal(room[:n], slices.Repeat([]uint64{900}, n)) {
			t.Fatalf("refused: trap %d, what was handed in: %d", trap, room)
		}
	}
}

// Two heaps that are handed the same words share none.
func TestP10_7TwoHeaps(t *testing.T) {
	words := []uint64{1, 2, 3}
	a, b := New(10), New(10)
	a.Record(16, words)
	b.Record(16, words)
	holds(t, a, told{set(1, 0, 7), done}, told{get(1, 0), "7 0"})
	holds(t, b, told{get(1, 0), "1 0"}, told{set(1, 1, 8), done})
	holds(t, a, told{get(1, 1), "2 0"})
	if !slices.Equal(words, []uint64{1, 2, 3}) {
		t.Errorf("what was handed in: %d", words)
	}
}
