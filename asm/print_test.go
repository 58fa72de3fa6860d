package asm

import (
	"fmt"
	"slices"
	"strings"
	"testing"

	"trammel/api"
)

func TestP14_1Print(t *testing.T) {
	printed(t, api.Module{}, "")
	printed(t, api.Module{Types: []api.Type{}, Texts: []string{}, Funcs: []api.Routine{}}, "")
	printed(t, api.Module{Types: []api.Type{{Kind: api.Grow, Elem: 1}}}, "grow 1\n")
	printed(t, api.Module{Types: []api.Type{{Kind: api.Fixed, Elem: 16, Len: 65536}}}, "fixed 16 65536\n")
	printed(t, api.Module{Types: []api.Type{{Kind: api.Fixed, Elem: 5}}}, "fixed 5 0\n")
	printed(t, api.Module{Types: []api.Type{{Kind: api.Record}}}, "record \"\"\n")
	printed(t, api.Module{Types: []api.Type{{Kind: api.Record, Name: "P", Fields: []api.Field{{Name: "a", Type: 2}, {Name: "", Type: 16}}}}}, "record \"P\" \"a\" 2 \"\" 16\n")
	printed(t, api.Module{Texts: []string{"a", "", "b"}}, "text \"a\"\ntext \"\"\ntext \"b\"\n")
	printed(t, api.Module{Funcs: []api.Routine{{}}}, "func \"\" 0 0\n  params\n  results\nend\n")
	printed(t, api.Module{Funcs: []api.Routine{{Name: "f", Results: []int{4}, Stack: 1, Code: []byte{4, 0x33}}}},
		"func \"f\" 0 1\n  params\n  results 4\n  true\n  return\nend\n")
	printed(t, api.Module{Funcs: []api.Routine{{Name: "g", Params: []int{1, 2, 3}, Results: []int{4, 5}, Locals: 256, Stack: 4096}}},
		"func \"g\" 256 4096\n  params 1 2 3\n  results 4 5\nend\n")
}

// Types stand first, then texts, then functions.
func TestP14_1Order(t *testing.T) {
	printed(t, api.Module{
		Types: []api.Type{{Kind: api.Grow, Elem: 17}, {Kind: api.Record, Name: "end"}, {Kind: api.Fixed, Elem: 18, Len: 1}},
		Texts: []string{"grow 1", "end"},
		Funcs: []api.Routine{{Name: "a"}, {Name: "b", Code: []byte{9}}},
	}, `grow 17
record "end"
fixed 18 1
text "grow 1"
text "end"
func "a" 0 0
  params
  results
end
func "b" 0 0
  params
  results
  pop
end
`)
}

// Each Op, with the numbers that it has, at their ends.
func TestP14_1Instructions(t *testing.T) {
	lines, list := instructions()
	s, m := rich()
	for i, x := range list {
		m.Funcs = inFuncOf(x).Funcs
		printed(t, m, s+"func \"f\" 9 9\n  params\n  results\n  "+lines[i]+"\nend\n")
	}
	m.Funcs = inFuncOf(list...).Funcs
	printed(t, m, s+"func \"f\" 9 9\n  params\n  results\n  "+strings.Join(lines, "\n  ")+"\nend\n")
}

// Each byte in each text and name.
func TestP14_1Strings(t *testing.T) {
	for c := range 256 {
		want := string([]byte{byte(c)})
		if c < 32 || c > 126 || c == '"' || c == '\\' {
			want = fmt.Sprintf("\\%02x", c)
		}
		s := "a" + string([]byte{byte(c)}) + "1"
		want = "\"a" + want + "1\""
		printed(t, api.Module{
			Types: []api.Type{{Kind: api.Record, Name: s, Fields: []api.Field{{Name: s, Type: 1}, {Name: s, Type: 1}}}},
			Texts: []string{s},
			Funcs: []api.Routine{{Name: s}},
		}, "record "+want+" "+want+" 1 "+want+" 1\ntext "+want+"\nfunc "+want+" 0 0\n  params\n  results\nend\n")
	}
	printed(t, api.Module{Texts: []string{"\\\"\n\x00\x1f\x7f\x80\xff ~;"}}, `text "\5c\22\0a\00\1f\7f\80\ff ~;"`+"\n")
}

func TestP14_1Refused(t *testing.T) {
	for _, x := range []struct {
		m    api.Module
		want api.Errno
	}{
		{api.Module{Types: slices.Repeat([]api.Type{{Kind: api.Grow, Elem: 1}}, 257)}, api.ErrLimit},
		{api.Module{Types: []api.Type{{Kind: api.Grow, Elem: 17}}}, api.ErrModule},
		{api.Module{Types: []api.Type{{Kind: api.Grow, Elem: 1, Len: 1}}}, api.ErrModule},
		{api.Module{Types: []api.Type{{Kind: api.Fixed, Elem: 1, Name: "a"}}}, api.ErrModule},
		{api.Module{Types: []api.Type{{}}}, api.ErrModule},
		{api.Module{Texts: []string{strings.Repeat("x", 65537)}}, api.ErrLimit},
		{api.Module{Funcs: []api.Routine{{Stack: -1}}}, api.ErrModule},
		{api.Module{Funcs: []api.Routine{{Locals: 257}}}, api.ErrLimit},
		{api.Module{Funcs: []api.Routine{{Code: []byte{2}}}}, api.ErrModule},
		{api.Module{Funcs: []api.Routine{{Code: []byte{6, 0, 0}}}}, api.ErrModule},
		{api.Module{Texts: slices.Repeat([]string{strings.Repeat("x", 65536)}, 32)}, api.ErrLimit},
	} {
		if s, err := Print(x.m); s != "" || err != x.want {
			t.Errorf("Print(%.300v) = %s, %d, want %d", fmt.Sprint(x.m), short(s), err, x.want)
		}
	}
}
