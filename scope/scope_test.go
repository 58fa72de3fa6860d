package scope

import (
	"fmt"
	"math"
	"slices"
	"strconv"
	"testing"

	"trammel/api"
)

func TestP7_1New(t *testing.T) {
	s := New()
	if s == nil {
		t.Fatal("New: nil")
	}
	holds(t, s, told{find("a"), isNone}, told{find(""), isNone}, told{slots(), "[]"},
		told{target("", false), isLabel}, told{target("", true), isLabel}, told{target("L", false), isLabel},
		told{leave(), "false"}, told{closeIt(), "false"}, told{open(), "2"},
		told{declare("a", 1), "0 0"}, told{enter("L", true), "0 0"})
	holds(t, New(), told{find("a"), isNone}, told{declare("a", 1), "0 0"}, told{enter("L", true), "0 0"}) // shares nothing with the first one
}

func TestP7_1Nil(t *testing.T) {
	var s *Scope
	for range 2 { // the second time, since the first one must not have made one of it
		for _, name := range []string{"", "a"} {
			for _, turns := range []bool{false, true} {
				holds(t, s, told{enter(name, turns), isNil}, told{target(name, turns), isNil})
			}
			for _, typ := range []int{0, 1, -1, math.MinInt, math.MaxInt} {
				holds(t, s, told{declare(name, typ), isNil})
			}
			holds(t, s, told{find(name), isNone})
		}
		holds(t, s, told{open(), "0"}, told{closeIt(), "false"}, told{leave(), "false"}, told{slots(), "[]"})
		if s.Slots() != nil || s.Copy() != nil {
			t.Errorf("Slots: %v, Copy: %v", s.Slots(), s.Copy())
		}
	}
}

// The examples of the chapter that tell names; one scope goes through all of them.
func TestP7_3Examples(t *testing.T) {
	holds(t, New(),
		told{find("a"), isNone}, told{declare("a", 1), "0 0"}, told{declare("a", 2), isTwice}, told{find("a"), "0 1 true"},
		told{open(), "2"}, told{declare("a", 3), "1 0"}, told{find("a"), "1 3 true"}, told{closeIt(), "true"},
		told{find("a"), "0 1 true"}, told{closeIt(), "false"},
		told{slots(), "[1 3]"})
}

func TestP7_2OpenClose(t *testing.T) {
	s := New()
	for depth := range 100 {
		holds(t, s, told{open(), strconv.Itoa(depth + 2)})
	}
	for range 50 {
		holds(t, s, told{closeIt(), "true"})
	}
	holds(t, s, told{open(), "52"})
	for range 51 {
		holds(t, s, told{closeIt(), "true"})
	}
	// the outermost one stays, with its names, however often it is to be closed
	holds(t, s, told{closeIt(), "false"}, told{declare("a", 1), "0 0"}, told{closeIt(), "false"}, told{closeIt(), "false"},
		told{find("a"), "0 1 true"}, told{declare("a", 2), isTwice}, told{open(), "2"}, told{closeIt(), "true"}, told{closeIt(), "false"})
}

// A block that ends takes its own names with it, and no others.
func TestP7_2NamesEnd(t *testing.T) {
	holds(t, New(), told{declare("a", 1), "0 0"},
		told{open(), "2"}, told{declare("b", 2), "1 0"}, told{declare("c", 3), "2 0"},
		told{open(), "3"}, told{open(), "4"}, told{declare("d", 4), "3 0"},
		told{closeIt(), "true"}, told{find("d"), isNone}, told{find("c"), "2 3 true"}, told{find("b"), "1 2 true"}, told{find("a"), "0 1 true"},
		told{closeIt(), "true"}, told{find("c"), "2 3 true"}, told{declare("d", 5), "4 0"}, told{find("d"), "4 5 true"},
		told{closeIt(), "true"}, told{find("d"), isNone}, told{find("c"), isNone}, told{find("b"), isNone}, told{find("a"), "0 1 true"},
		told{declare("b", 6), "5 0"}, told{find("b"), "5 6 true"},
		told{open(), "2"}, told{find("b"), "5 6 true"}, told{declare("c", 7), "6 0"}, told{declare("c", 8), isTwice})
}

// Turns are not left by what closes a block, and blocks not closed by what leaves a turn.
func TestP7_2BlocksAndTurnsApart(t *testing.T) {
	holds(t, New(), told{open(), "2"}, told{enter("L", true), "0 0"}, told{declare("L", 9), "0 0"}, told{closeIt(), "true"},
		told{target("L", true), "0 0"}, told{target("", false), "0 0"}, told{find("L"), isNone}, told{enter("L", true), isTwice},
		told{open(), "2"}, told{declare("L", 8), "1 0"}, told{leave(), "true"}, told{find("L"), "1 8 true"}, told{declare("L", 7), isTwice},
		told{target("L", false), isLabel}, told{leave(), "false"}, told{closeIt(), "true"}, told{slots(), "[9 8]"})
}

func TestP7_3Twice(t *testing.T) {
	holds(t, New(), told{declare("a", 1), "0 0"}, told{declare("b", 1), "1 0"}, told{declare("a", 1), isTwice}, told{declare("b", 2), isTwice},
		told{open(), "2"}, told{declare("b", 3), "2 0"}, told{declare("a", 4), "3 0"}, told{declare("b", 3), isTwice},
		told{open(), "3"}, told{declare("a", 5), "4 0"}, told{closeIt(), "true"}, told{declare("a", 6), isTwice},
		told{closeIt(), "true"}, told{declare("a", 7), isTwice},
		told{open(), "2"}, told{declare("a", 8), "5 0"}, told{find("a"), "5 8 true"}, told{find("b"), "1 1 true"})
}

func TestP7_3AnyNameAnyType(t *testing.T) {
	s := New()
	list := []int{0, -1, 1, 16, math.MinInt, math.MaxInt, 1 << 40, 1}
	for i, name := range []string{"", " ", "a", "A", "\x00", "\xff\xfe", "while", "a b"} {
		holds(t, s, told{find(name), isNone}, told{declare(name, list[i]), fmt.Sprint(i, 0)}, told{declare(name, 3), isTwice},
			told{find(name), fmt.Sprint(i, list[i], true)})
	}
	holds(t, s, told{find(""), "0 0 true"}, told{slots(), fmt.Sprint(list)},
		told{open(), "2"}, told{declare("", 5), "8 0"}, told{find(""), "8 5 true"}, told{closeIt(), "true"}, told{find(""), "0 0 true"})
}

// fill declares names in one block, till all but left slots are given out.
func fill(t *testing.T, s *Scope, left int) {
	t.Helper()
	for i := len(s.Slots()); i < api.MaxLocals-left; i++ {
		holds(t, s, told{declare("n"+strconv.Itoa(i), i), fmt.Sprint(i, 0)})
	}
}

func TestP7_3Limit(t *testing.T) {
	s := New()
	fill(t, s, 0)
	for range 2 {
		holds(t, s, told{declare("more", 1), isLocals}, told{declare("", 1), isLocals}, told{declare("n0", 1), isTwice}, told{declare("n255", 1), isTwice},
			told{find("more"), isNone}, told{find("n255"), "255 255 true"}, told{find("n0"), "0 0 true"})
	}
	// in a block within it the names are other ones: so the slots are wrong alone
	holds(t, s, told{open(), "2"}, told{declare("n0", 1), isLocals}, told{find("n0"), "0 0 true"}, told{closeIt(), "true"}, told{declare("n0", 1), isTwice})
	if l := s.Slots(); len(l) != api.MaxLocals || !slices.IsSorted(l) || l[255] != 255 {
		t.Errorf("Slots: %v", l)
	}
	one := New()
	fill(t, one, 1)
	holds(t, one, told{declare("n7", 1), isTwice}, told{declare("last", -3), "255 0"}, told{find("last"), "255 -3 true"}, told{declare("last", 1), isTwice}, told{declare("x", 1), isLocals})
}

// A slot that was given out stays so, though its block is closed.
func TestP7_3LimitBehindBlocks(t *testing.T) {
	s := New()
	for i := range api.MaxLocals {
		holds(t, s, told{open(), "2"}, told{declare("a", i), fmt.Sprint(i, 0)}, told{declare("a", i), isTwice}, told{closeIt(), "true"}, told{find("a"), isNone})
	}
	holds(t, s, told{declare("a", 1), isLocals}, told{open(), "2"}, told{declare("a", 1), isLocals}, told{closeIt(), "true"}, told{find("a"), isNone},
		told{enter("a", true), "0 0"}) // turns have numbers of their own
	if l := s.Slots(); len(l) != api.MaxLocals || l[0] != 0 || l[255] != 255 {
		t.Errorf("Slots: %v", l)
	}
}

func TestP7_3Slots(t *testing.T) {
	holds(t, New(), told{slots(), "[]"}, told{declare("a", 4), "0 0"}, told{slots(), "[4]"}, told{declare("a", 5), isTwice}, told{slots(), "[4]"},
		told{open(), "2"}, told{declare("a", 3), "1 0"}, told{declare("b", 4), "2 0"}, told{closeIt(), "true"}, told{slots(), "[4 3 4]"},
		told{open(), "2"}, told{open(), "3"}, told{declare("z", -2), "3 0"}, told{closeIt(), "true"}, told{closeIt(), "true"}, told{slots(), "[4 3 4 -2]"})
}

// What Slots answers is new memory each time, what lies behind its length included.
func TestP7_3SlotsOwn(t *testing.T) {
	s := New()
	for i := range 40 {
		l, again := s.Slots(), s.Slots()
		for k := range l {
			l[k] = -1
		}
		_ = append(l, -2, -3)
		if i > 0 && again[0] != 0 {
			t.Errorf("%d slots: another answer was changed: %v", i, again)
		}
		holds(t, s, told{declare("n"+strconv.Itoa(i), i), fmt.Sprint(i, 0)})
		_ = append(again, -4)
		if got := s.Slots(); len(got) != i+1 || got[i] != i || got[0] != 0 {
			t.Errorf("Slots: %v", got)
		}
		holds(t, s, told{find("n0"), "0 0 true"}, told{find("n" + strconv.Itoa(i)), fmt.Sprint(i, i, true)})
	}
}

// Rows of blocks and names that are long, though none of them is in a source.
func TestP7_3Long(t *testing.T) {
	s := New()
	holds(t, s, told{declare("a", 7), "0 0"})
	const many = 300000
	for range many {
		s.Open()
	}
	for range 1000 {
		holds(t, s, told{find("a"), "0 7 true"}, told{find("b"), isNone})
	}
	holds(t, s, told{declare("a", 8), "1 0"}, told{find("a"), "1 8 true"}, told{open(), strconv.Itoa(many + 2)})
	for range many + 1 {
		if !s.Close() {
			t.Fatal("Close: false")
		}
	}
	holds(t, s, told{closeIt(), "false"}, told{find("a"), "0 7 true"})
}
