package asm

import (
	"math/rand"
	"slices"
	"strings"
	"testing"

	"trammel/api"
	"trammel/image"
)

// thereAndBack holds Parse of what Print tells to the module, and Print of that to the text.
func thereAndBack(t *testing.T, m api.Module) string {
	t.Helper()
	s, err := Print(m)
	if err != api.OK {
		t.Fatalf("Print(%.500v): %d", m, err)
	}
	back, at, err := Parse(s)
	if at != 0 || err != api.OK || !image.Same(back, m) {
		t.Fatalf("Parse of Print(%.500v) = %.500v, %d, %d", m, back, at, err)
	}
	if again, err := Print(back); again != s || err != api.OK {
		t.Fatalf("Print of what was read: %s, %d, want %s", short(again), err, short(s))
	}
	return s
}

func TestP14_4ThereAndBack(t *testing.T) {
	r := rand.New(rand.NewSource(144))
	for range 20000 {
		thereAndBack(t, anyModule(r))
	}
	_, m := richFunc()
	thereAndBack(t, m)
	all := make([]byte, 256)
	for i := range all {
		all[i] = byte(i)
	}
	s := string(all)
	thereAndBack(t, api.Module{Types: []api.Type{{Kind: api.Record, Name: s, Fields: []api.Field{{Name: s, Type: 1}}}}, Texts: []string{s, "", s}, Funcs: []api.Routine{{Name: s}}})
}

// The greatest modules have texts that Parse takes.
func TestP14_4Greatest(t *testing.T) {
	returns := []byte(strings.Repeat("\x33", 65536)) // no Op's line is longer, for each of its bytes
	for _, m := range []api.Module{
		{Funcs: slices.Repeat([]api.Routine{{Code: returns}}, 31)},
		{Texts: slices.Repeat([]string{strings.Repeat("\xff", 65536)}, 31)},
		{Texts: make([]string, 32768), Types: slices.Repeat([]api.Type{{Kind: api.Record, Fields: slices.Repeat([]api.Field{{Type: 16}}, 32)}}, 256)},
		{Types: slices.Repeat([]api.Type{{Kind: api.Grow, Elem: 271}}, 256), Funcs: slices.Repeat([]api.Routine{{Params: slices.Repeat([]int{271}, 32), Results: slices.Repeat([]int{271}, 8), Locals: 256, Stack: 4096, Code: returns[:4096]}}, 256)},
	} {
		thereAndBack(t, m)
	}
}

// A text that is written otherwise is read as the same module, and Print tells it in the one way.
func TestP14_4WrittenOtherwise(t *testing.T) {
	r := rand.New(rand.NewSource(145))
	for range 10000 {
		m := anyModule(r)
		s := plainPrint(m)
		other := otherwise(r, s)
		back, at, err := Parse(other)
		if at != 0 || err != api.OK || !image.Same(back, m) {
			t.Fatalf("Parse(%s) = %.500v, %d, %d, want %.500v", short(other), back, at, err, m)
		}
		printed(t, back, s)
	}
}

// otherwise puts blanks, remarks and empty lines into a text, and takes blanks away at a line's beginning and beside strings.
func otherwise(r *rand.Rand, s string) string {
	blanks := func(least int) string {
		b := ""
		for n := least + r.Intn(3); n > 0; n-- {
			b += []string{" ", "\t", "\r"}[r.Intn(3)]
		}
		return b
	}
	remark := func() string { return []string{"", "", ";", "; x", ";\"", ";;\\\xff\x00 end", "; grow 1"}[r.Intn(7)] }
	var b strings.Builder
	for _, l := range strings.Split(strings.TrimSuffix(s, "\n"), "\n") {
		for range r.Intn(2) {
			b.WriteString(blanks(0) + remark() + "\n")
		}
		words, _ := plainWords(l, 0)
		for i, w := range words {
			end := len(l)
			if i+1 < len(words) {
				end = words[i+1].at
			}
			least := 1
			if i == 0 || w.kind == "s" || words[i-1].kind == "s" {
				least = 0
			}
			b.WriteString(blanks(least) + strings.TrimRight(l[w.at:end], " "))
		}
		b.WriteString(blanks(0) + remark() + "\n")
	}
	if r.Intn(2) == 0 {
		return strings.TrimSuffix(b.String(), "\n")
	}
	return b.String() + blanks(0) + remark()
}

// Each of these alone, at each place where it may be, changes nothing.
func TestP14_4EachPlace(t *testing.T) {
	s, m := richFunc()
	for _, x := range []string{"\n", " \n", "; x\n", ";\n", "\t\r ;\n", "\r\n"} {
		at := 0
		for _, l := range strings.SplitAfter(s, "\n") {
			reads(t, s[:at]+x+s[at:], m)
			if at += len(l); l != "" {
				reads(t, s[:at-1]+x+s[at:], m) // in the byte's 10 stead
			}
		}
	}
	for i := range s {
		if s[i] == ' ' {
			for _, x := range []string{"  ", "\t", "\r", " \t\r ", "\r\r"} {
				reads(t, s[:i]+x+s[i+1:], m)
			}
		}
	}
	reads(t, strings.TrimSuffix(s, "\n"), m)
	reads(t, strings.ReplaceAll(s, "\n", "\r\n"), m)
}
