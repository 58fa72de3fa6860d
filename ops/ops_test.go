package ops

import (
	"bytes"
	"encoding/hex"
	"math"
	"slices"
	"strings"
	"testing"

	"trammel/api"
)

// code reads bytes as the document writes them: hex digits with spaces between.
func code(t *testing.T, s string) []byte {
	t.Helper()
	b, err := hex.DecodeString(strings.ReplaceAll(s, " ", ""))
	if err != nil {
		t.Fatal(err)
	}
	return b
}

// edges are the ends of all that an A, a B, a Value or a To may be, one beyond each, numbers whose lowest bytes alone would do, and the
// least and the greatest number there is.
func edges() []int64 {
	out := []int64{math.MinInt64, math.MinInt64 + 1, math.MaxInt64 - 1, math.MaxInt64}
	for n := int64(-3); n <= 9; n++ {
		out = append(out, n, 1<<8+n, 1<<16+n, 1<<32+n, n-1<<8, n-1<<16, n-1<<32)
	}
	for _, bits := range []int{7, 15, 31} {
		for n := int64(-2); n <= 1; n++ {
			out = append(out, 1<<bits+n, n-1<<bits, 1<<(bits+1)+n)
		}
	}
	slices.Sort(out)
	return slices.Compact(out)
}

// arms makes a switch's arms of values, which lead to the places of their numbers.
func arms(values ...int64) []api.Arm {
	var list []api.Arm
	for i, n := range values {
		list = append(list, api.Arm{Value: n, To: i})
	}
	return list
}

// many makes so many arms, whose values the least width has.
func many(n int) []api.Arm {
	list := make([]api.Arm, n)
	for i := range list {
		list[i] = api.Arm{Value: int64(int8(i)), To: i * 65539 % (1 << 32)}
	}
	return list
}

// good tells instructions of each Op, with A, B and Arms at their ends and between.
func good() []api.Instr {
	var list []api.Instr
	for op := range 256 {
		for _, a := range edges() {
			for _, b := range []int64{0, 1, 2, 3, 65535, 1<<32 - 1} {
				list = append(list, api.Instr{Op: uint8(op), A: a, B: b})
			}
		}
	}
	for w := int64(api.I8); w <= api.I64; w++ {
		for _, n := range edges() {
			list = append(list, api.Instr{Op: api.OpSwitch, A: w, B: 7, Arms: arms(n)}, api.Instr{Op: api.OpSwitch, A: w, Arms: arms(-1, n, 5, n)})
		}
	}
	return slices.DeleteFunc(list, func(x api.Instr) bool { return plainBytes(x) == nil })
}

func TestP12_1EncodeExamples(t *testing.T) {
	for _, x := range []struct {
		x    api.Instr
		want string
	}{
		{api.Instr{Op: api.OpI8, A: -1}, "01 ff"},
		{api.Instr{Op: api.OpI32, A: 258}, "02 02 01 00 00"},
		{api.Instr{Op: api.OpTrue}, "04"},
		{api.Instr{Op: api.OpConv, A: 1, B: 3}, "1d 01 03"},
		{api.Instr{Op: api.OpSwitch, A: 1, B: 300, Arms: []api.Arm{{Value: 5, To: 7}}}, "31 01 01 00 05 00 00 00 00 00 00 00 07 00 00 00 2c 01 00 00"},

		{api.Instr{Op: api.OpI8, A: -128}, "01 80"},
		{api.Instr{Op: api.OpI32, A: -2}, "02 fe ff ff ff"},
		{api.Instr{Op: api.OpI64, A: math.MinInt64}, "03 00 00 00 00 00 00 00 80"},
		{api.Instr{Op: api.OpGet, A: 258}, "07 02 01"},
		{api.Instr{Op: api.OpSetField, A: 16, B: 258}, "26 10 00 02 01"},
		{api.Instr{Op: api.OpJump, A: 1<<32 - 2}, "2e fe ff ff ff"},
		{api.Instr{Op: api.OpTrap, A: 255}, "34 ff"},
		{api.Instr{Op: api.OpSwitch, A: 3, B: 1<<32 - 1}, "31 03 00 00 ff ff ff ff"},
		{api.Instr{Op: api.OpSwitch, A: 1, Arms: []api.Arm{{Value: -128, To: 1<<32 - 1}, {Value: -128, To: 1}}},
			"31 01 02 00 80 ff ff ff ff ff ff ff ff ff ff ff 80 ff ff ff ff ff ff ff 01 00 00 00 00 00 00 00"},
	} {
		want := code(t, x.want)
		if got, err := Encode(x.x); !bytes.Equal(got, want) || err != api.OK {
			t.Errorf("Encode(%s) = % x, %d, want %s", tell(x.x), got, err, x.want)
		}
		if n := Size(x.x); n != len(want) {
			t.Errorf("Size(%s) = %d, want %d", tell(x.x), n, len(want))
		}
	}
}

func TestP12_1SizeExamples(t *testing.T) {
	for _, x := range []struct {
		x    api.Instr
		want int
	}{
		{api.Instr{Op: api.OpI8, A: 128}, 0}, {api.Instr{Op: api.OpTrue, A: 1}, 0}, {api.Instr{Op: api.OpEq, A: 5}, 2},
		{api.Instr{Op: api.OpLt, A: 5}, 0}, {api.Instr{Op: 53}, 0}, {api.Instr{}, 0}, {api.Instr{Op: 255}, 0},
		{api.Instr{Op: api.OpI8}, 2}, {api.Instr{Op: api.OpI32}, 5}, {api.Instr{Op: api.OpI64}, 9}, {api.Instr{Op: api.OpReturn}, 1},
		{api.Instr{Op: api.OpField}, 5}, {api.Instr{Op: api.OpWhen}, 5}, {api.Instr{Op: api.OpSwitch, A: 1}, 8}, {api.Instr{Op: api.OpSwitch}, 0},
	} {
		if got := Size(x.x); got != x.want {
			t.Errorf("Size(%s) = %d, want %d", tell(x.x), got, x.want)
		}
	}
}

// Each Op there is and is not, with an A and a B at each edge, and with arms where none are told.
func TestP12_1EachOp(t *testing.T) {
	list := edges()
	for op := range 256 {
		for _, a := range list {
			for _, b := range list {
				isEncoded(t, api.Instr{Op: uint8(op), A: a, B: b})
			}
			isEncoded(t, api.Instr{Op: uint8(op), A: a, Arms: []api.Arm{}})
			isEncoded(t, api.Instr{Op: uint8(op), A: a, Arms: arms(0)})
		}
	}
}

// Of each Op some instructions are found to be, so that the test above does not hold nothing against nothing.
func TestP12_1EachOpIsSome(t *testing.T) {
	seen := map[uint8]int{}
	for _, x := range good() {
		if Size(x) > 0 {
			seen[x.Op]++
		}
	}
	if len(seen) != 52 {
		t.Errorf("there are instructions of %d Ops", len(seen))
	}
	for op, n := range seen {
		if op < 1 || op > 52 || n < 1 {
			t.Errorf("Op %d: %d", op, n)
		}
	}
}

func TestP12_1Arms(t *testing.T) {
	for w := int64(-1); w <= 5; w++ {
		for _, n := range edges() {
			isEncoded(t, api.Instr{Op: api.OpSwitch, A: w, B: 9, Arms: arms(n)})
			isEncoded(t, api.Instr{Op: api.OpSwitch, A: w, B: 9, Arms: arms(1, n, n, 2)})
			isEncoded(t, api.Instr{Op: api.OpSwitch, A: w, B: n, Arms: arms(1)})
			isEncoded(t, api.Instr{Op: api.OpSwitch, A: w, Arms: []api.Arm{{Value: 1, To: int(n)}}})
			isEncoded(t, api.Instr{Op: api.OpSwitch, A: w, Arms: []api.Arm{{}, {To: int(n)}, {}}})
			isEncoded(t, api.Instr{Op: api.OpSwitch, A: n, Arms: arms(1)})
		}
	}
}

func TestP12_1ArmsLimit(t *testing.T) {
	for _, n := range []int{0, 1, 2, 255, 256, 257, 65534, 65535, 65536, 65537, 1 << 17, 1<<17 + 1} {
		x := api.Instr{Op: api.OpSwitch, A: api.I8, B: 3, Arms: many(n)}
		isEncoded(t, x)
		want := 8 + 12*n
		if n > 65535 {
			want = 0
		}
		if got := Size(x); got != want {
			t.Errorf("Size of a switch of %d arms: %d, want %d", n, got, want)
		}
		if n > 0 {
			x.Arms[n-1].Value = 128
			isEncoded(t, x)
		}
	}
}

func TestP12_1Names(t *testing.T) {
	for _, x := range []struct {
		op   uint8
		want string
	}{{1, "i8"}, {38, "setfield"}, {0, ""}, {53, ""}, {api.OpI32, "i32"}, {api.OpCharAt, "charat"}, {api.OpSetAt, "setat"}, {api.OpTrap, "trap"}, {255, ""}} {
		if got := Name(x.op); got != x.want {
			t.Errorf("Name(%d) = %q, want %q", x.op, got, x.want)
		}
	}
	for op := range 256 {
		r, _ := rowOf(uint8(op))
		if got := Name(uint8(op)); got != r.name {
			t.Errorf("Name(%d) = %q, want %q", op, got, r.name)
		}
	}
}
