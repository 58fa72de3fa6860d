package image

import (
	"bytes"
	"encoding/hex"
	"fmt"
	"strings"
	"testing"

	"trammel/api"
)

// code reads bytes as the document writes them: hex digits with spaces and commas between.
func code(t *testing.T, s string) []byte {
	t.Helper()
	b, err := hex.DecodeString(strings.NewReplacer(" ", "", ",", "").Replace(s))
	if err != nil {
		t.Fatal(err)
	}
	return b
}

// long makes a text of so many bytes.
func long(n int) string { return strings.Repeat("x", n) }

// grows makes so many types that may be.
func grows(n int) []api.Type {
	list := make([]api.Type, n)
	for i := range list {
		list[i] = api.Type{Kind: api.Grow, Elem: api.I8}
	}
	return list
}

// written writes all of a module out, each list with how long it is.
func written(m api.Module) string {
	var s strings.Builder
	fmt.Fprintln(&s, len(m.Types), len(m.Texts), len(m.Funcs))
	for _, x := range m.Types {
		fmt.Fprintf(&s, "%d %q %d %d %d\n", x.Kind, x.Name, x.Elem, x.Len, len(x.Fields))
		for _, f := range x.Fields {
			fmt.Fprintf(&s, "%q %d\n", f.Name, f.Type)
		}
	}
	for _, x := range m.Texts {
		fmt.Fprintf(&s, "%q\n", x)
	}
	for _, f := range m.Funcs {
		fmt.Fprintf(&s, "%q %d %d %d %d %q\n", f.Name, f.Params, f.Results, f.Locals, f.Stack, f.Code)
	}
	return s.String()
}

// isSame tells whether two modules are the same by how they are written out.
func isSame(a, b api.Module) bool { return written(a) == written(b) }

// sample is a module with something of each kind, made anew each time.
func sample() api.Module {
	return api.Module{
		Types: []api.Type{
			{Kind: api.Record, Name: "pair", Fields: []api.Field{{Name: "a", Type: api.I32}, {Name: "next", Type: 17}}}, // 16
			{Kind: api.Grow, Elem: 16},                // 17
			{Kind: api.Fixed, Elem: api.I8, Len: 300}, // 18
			{Kind: api.Record},                        // 19
		},
		Texts: []string{"hello", ""},
		Funcs: []api.Routine{
			{Name: "main", Params: []int{api.I64, 16}, Results: []int{api.Text}, Locals: 3, Stack: 4096, Code: []byte{6, 1, 0, 51}},
			{},
			{Name: "main", Locals: 256, Results: []int{18, 17}, Code: []byte{7, 255, 0}},
		},
	}
}

// sampleBytes are its bytes but for the sum, written out.
const sampleBytes = "54 52 4d 01, 4b 00 00 00," +
	"04, 06 04 70 61 69 72 02 01 61 02 04 6e 65 78 74 11, 08 10, 07 01 ac 02, 06 00 00," +
	"02, 05 68 65 6c 6c 6f, 00," +
	"03, 04 6d 61 69 6e 02 03 10 01 05 03 80 20 04 06 01 00 33," +
	"00 00 00 00 00 00," +
	"04 6d 61 69 6e 00 02 12 11 80 02 00 03 07 ff 00"

func TestP13_1EncodeExamples(t *testing.T) {
	for _, x := range []struct {
		m    api.Module
		want string
	}{
		{api.Module{}, "54 52 4d 01, 03 00 00 00, 00 00 00, 12 d9 41 ff"},
		{api.Module{Types: []api.Type{}, Texts: []string{}, Funcs: []api.Routine{}}, "54 52 4d 01, 03 00 00 00, 00 00 00, 12 d9 41 ff"},
	} {
		if b, err := Encode(x.m); err != api.OK || !bytes.Equal(b, code(t, x.want)) {
			t.Errorf("Encode(%v) = % x, %d, want %s", x.m, b, err, x.want)
		}
	}
	b, err := Encode(sample())
	if want := code(t, sampleBytes); err != api.OK || len(b) != len(want)+4 || !bytes.Equal(b[:len(want)], want) {
		t.Errorf("Encode(sample) = % x, %d, want % x and a sum", b, err, want)
	}
}

func TestP13_2LoadExamples(t *testing.T) {
	for _, x := range []struct {
		b   string
		at  int
		err api.Errno
	}{
		{"", 0, api.ErrShort}, {"54 52", 2, api.ErrShort}, {"54 53", 1, api.ErrModule},
		{"54 52 4d 01 00 00 00 00 00 00 00 00", 8, api.ErrShort},

		{"54 52 4d 01, 03 00 00 00, 00 00 00, 12 d9 41 ff", 0, api.OK},
		{"54 52 4d 02, 03 00 00 00, 00 00 00, 12 d9 41 ff", 3, api.ErrModule},
		{"54 52 4d 01, 03 00 00 00, 00 00 00, 12 d9 41 fe", 11, api.ErrModule},
		{"54 52 4d 01, 03 00 00 00, 00 00 01, 12 d9 41 ff", 11, api.ErrModule},
		{"54 52 4d 01, 03 00 00 00, 00 00 00, 12 d9 41 ff 00", 15, api.ErrModule},
	} {
		m, at, err := Load(code(t, x.b))
		if at != x.at || err != x.err || !isSame(m, api.Module{}) {
			t.Errorf("Load(%s) = %v, %d, %d, want %d, %d", x.b, m, at, err, x.at, x.err)
		}
	}
	m, at, err := Load(wrap(code(t, sampleBytes)[8:]))
	if at != 0 || err != api.OK || !isSame(m, sample()) {
		t.Errorf("Load(sample) = %v, %d, %d", m, at, err)
	}
}

func TestP13_1CheckExamples(t *testing.T) {
	body := func(locals int, s string) api.Module {
		return api.Module{Funcs: []api.Routine{{Locals: locals, Code: code(t, s)}}}
	}
	for _, x := range []struct {
		m   api.Module
		err api.Errno
	}{
		{api.Module{Types: []api.Type{{Kind: api.Fixed, Elem: 16}}}, api.OK},
		{api.Module{Types: []api.Type{{Kind: api.Grow, Elem: 17}}}, api.ErrModule},
		{body(0, "04"), api.OK}, {body(0, "02"), api.ErrModule}, {body(0, "07 00 00"), api.ErrModule},
		{api.Module{Funcs: []api.Routine{{Params: make([]int, 33), Locals: 33}}}, api.ErrLimit},
		{api.Module{Texts: []string{long(65537)}}, api.ErrLimit},

		{api.Module{}, api.OK}, {sample(), api.OK}, {body(1, "07 00 00"), api.OK}, {body(0, ""), api.OK},
	} {
		if err := isChecked(t, x.m); err != x.err {
			t.Errorf("Check(%.200v) = %d, want %d", x.m, err, x.err)
		}
	}
}
