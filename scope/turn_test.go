package scope

import (
	"fmt"
	"strconv"
	"testing"
)

// The examples of the chapter that tell turns; one scope goes through all of them.
func TestP7_4Examples(t *testing.T) {
	holds(t, New(),
		told{target("", false), isLabel}, told{enter("L", true), "0 0"}, told{enter("", false), "1 0"},
		told{target("", false), "1 0"}, told{target("", true), "0 0"}, told{target("L", false), "0 0"},
		told{enter("L", true), isTwice}, told{leave(), "true"}, told{leave(), "true"}, told{leave(), "false"},
		told{enter("L", false), "2 0"}, told{target("L", true), isLabel}, told{target("L", false), "2 0"})
}

func TestP7_4Enter(t *testing.T) {
	for _, turns := range []bool{false, true} {
		// without a label as often as one likes, with one label once only, till it is left
		holds(t, New(), told{enter("", turns), "0 0"}, told{enter("", turns), "1 0"}, told{enter("", !turns), "2 0"},
			told{enter("L", turns), "3 0"}, told{enter("L", turns), isTwice}, told{enter("L", !turns), isTwice}, told{enter("M", turns), "4 0"},
			told{enter("", turns), "5 0"}, told{enter("L", turns), isTwice}, told{enter("M", !turns), isTwice}, told{enter("l", turns), "6 0"},
			told{leave(), "true"}, told{leave(), "true"}, told{leave(), "true"}, // l, none and M
			told{enter("L", turns), isTwice}, told{enter("M", !turns), "7 0"}, told{leave(), "true"},
			told{leave(), "true"}, told{enter("L", !turns), "8 0"}, told{enter("M", turns), "9 0"})
	}
}

func TestP7_4Leave(t *testing.T) {
	s := New()
	holds(t, s, told{leave(), "false"}, told{leave(), "false"}, told{enter("", false), "0 0"}, told{leave(), "true"}, told{leave(), "false"})
	for i := range 50 {
		holds(t, s, told{enter("", i%2 == 0), fmt.Sprint(i+1, 0)})
	}
	for range 50 {
		holds(t, s, told{leave(), "true"})
	}
	holds(t, s, told{leave(), "false"}, told{target("", false), isLabel}, told{enter("", true), "51 0"})
}

func TestP7_5Innermost(t *testing.T) {
	holds(t, New(), told{target("", false), isLabel}, told{target("", true), isLabel},
		told{enter("", false), "0 0"}, told{target("", false), "0 0"}, told{target("", true), isLabel}, // a switch is left alone
		told{enter("", true), "1 0"}, told{target("", false), "1 0"}, told{target("", true), "1 0"},
		told{enter("S", false), "2 0"}, told{target("", false), "2 0"}, told{target("", true), "1 0"},
		told{enter("", false), "3 0"}, told{target("", false), "3 0"}, told{target("", true), "1 0"},
		told{enter("L", true), "4 0"}, told{target("", false), "4 0"}, told{target("", true), "4 0"},
		told{leave(), "true"}, told{target("", false), "3 0"}, told{target("", true), "1 0"},
		told{leave(), "true"}, told{leave(), "true"}, told{target("", false), "1 0"}, told{target("", true), "1 0"},
		told{leave(), "true"}, told{target("", false), "0 0"}, told{target("", true), isLabel},
		told{leave(), "true"}, told{target("", false), isLabel}, told{target("", true), isLabel})
}

func TestP7_5Label(t *testing.T) {
	s := New()
	holds(t, s, told{target("L", false), isLabel}, told{target("L", true), isLabel},
		told{enter("L", true), "0 0"}, told{enter("S", false), "1 0"}, told{enter("M", true), "2 0"}, told{enter("", true), "3 0"}, told{enter("T", false), "4 0"},
		told{target("L", false), "0 0"}, told{target("L", true), "0 0"}, told{target("M", false), "2 0"}, told{target("M", true), "2 0"},
		// no loop around or within a switch stands for it
		told{target("S", false), "1 0"}, told{target("S", true), isLabel}, told{target("T", false), "4 0"}, told{target("T", true), isLabel},
		told{target("l", false), isLabel}, told{target("LM", true), isLabel}, told{target(" ", false), isLabel})
	holds(t, s, told{leave(), "true"}, told{target("T", false), isLabel}, told{leave(), "true"}, told{leave(), "true"},
		told{target("M", false), isLabel}, told{target("M", true), isLabel}, told{target("S", false), "1 0"},
		told{leave(), "true"}, told{target("S", false), isLabel}, told{target("L", true), "0 0"},
		told{leave(), "true"}, told{target("L", true), isLabel}, told{target("L", false), isLabel})
}

// A label that is entered again means the new turn, and is what that one is.
func TestP7_5LabelAgain(t *testing.T) {
	holds(t, New(), told{enter("L", true), "0 0"}, told{target("L", true), "0 0"}, told{leave(), "true"},
		told{enter("L", false), "1 0"}, told{target("L", true), isLabel}, told{target("L", false), "1 0"}, told{leave(), "true"},
		told{enter("", true), "2 0"}, told{enter("L", true), "3 0"}, told{target("L", true), "3 0"}, told{target("L", false), "3 0"})
}

// A label is no name of a local, and a local no label.
func TestP7_5LabelsAreNoNames(t *testing.T) {
	holds(t, New(), told{declare("L", 1), "0 0"}, told{target("L", false), isLabel}, told{enter("L", true), "0 0"}, told{enter("M", true), "1 0"},
		told{find("M"), isNone}, told{declare("M", 2), "1 0"}, told{target("M", true), "1 0"}, told{find("L"), "0 1 true"})
}

// Rows of turns that are long, though none of them is in a source.
func TestP7_5Long(t *testing.T) {
	s := New()
	const many = 200000
	holds(t, s, told{enter("L", true), "0 0"})
	for i := 1; i < many; i++ {
		if n, wrong := s.Enter("s"+strconv.Itoa(i), false); n != i || wrong != 0 {
			t.Fatalf("Enter: %d, %d, want %d", n, wrong, i)
		}
	}
	last := fmt.Sprint(many-1, 0)
	for range 1000 {
		holds(t, s, told{target("", true), "0 0"}, told{target("", false), last}, told{target("L", true), "0 0"}, told{target("s7", false), "7 0"}, told{target("s7", true), isLabel})
	}
	for range many {
		if !s.Leave() {
			t.Fatal("Leave: false")
		}
	}
	holds(t, s, told{leave(), "false"}, told{target("L", false), isLabel})
}
