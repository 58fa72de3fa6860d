package linear

import (
	"bytes"
	"slices"
	"testing"

	"trammel/api"
)

func TestP15_5Code(t *testing.T) {
	yes := do(api.OpTrue)
	for _, x := range []struct {
		l    []api.Line
		want []byte
	}{
		{nil, nil}, {row(), nil}, {row(at(1)), nil}, {row(at(1), at(0)), nil}, {row(yes), []byte{4}}, {row(at(1), yes, at(2)), []byte{4}},
		{row(do(api.OpI32, 258), do(api.OpConv, 1, 3)), []byte{2, 2, 1, 0, 0, 0x1d, 1, 3}},
		{row(at(3), do(api.OpJump, 3)), []byte{0x2e, 0, 0, 0, 0}}, {row(do(api.OpJump, 3), at(3)), []byte{0x2e, 5, 0, 0, 0}},
		{row(do(api.OpUnless, 3), yes, at(3), yes), []byte{0x2f, 6, 0, 0, 0, 4, 4}}, {row(yes, at(0), yes, at(3), do(api.OpWhen, 0)), []byte{4, 4, 0x30, 1, 0, 0, 0}},
		{row(do(api.OpJump, 3), at(2), at(3), do(api.OpJump, 2)), []byte{0x2e, 5, 0, 0, 0, 0x2e, 5, 0, 0, 0}},
		{row(at(9), yes, choose(1, 9), at(8)), []byte{4, 0x31, 1, 0, 0, 0, 0, 0, 0}},
		{row(yes, choose(2, 8, -2, 9, 1, 8), at(9), yes, at(8)), []byte{4, 0x31, 2, 2, 0,
			0xfe, 0xff, 0xff, 0xff, 0xff, 0xff, 0xff, 0xff, 33, 0, 0, 0, 1, 0, 0, 0, 0, 0, 0, 0, 34, 0, 0, 0, 34, 0, 0, 0, 4}},
	} {
		isRead(t, x.l)
		if got, err := Code(x.l); err != api.OK || !bytes.Equal(got, x.want) {
			t.Errorf("Code(%v) = % x, %d, want % x", x.l, got, err, x.want)
		}
	}
}

// Codes of 65536 bytes and of one more, of instructions of each length; and labels and Check's error beside too many bytes.
func TestP15_5Limit(t *testing.T) {
	trues := slices.Repeat(row(do(api.OpTrue)), 65537)
	jumps := slices.Repeat(row(do(api.OpJump, 1)), 13107) // 65535 bytes
	wide := choose(1, 1)
	wide.X.Arms = slices.Repeat([]api.Arm{{Value: -1, To: 1}}, 5460) // 65528 bytes
	for _, x := range []struct {
		name string
		l    []api.Line
		size int // 0: too many
		err  api.Errno
	}{
		{"65536 bytes", trues[:65536], 65536, api.OK}, {"65537 bytes", trues, 0, api.ErrLimit},
		{"65536 bytes and labels", slices.Concat(row(at(1)), trues[:65536], row(at(2), at(3))), 65536, api.OK},
		{"jumps", append(slices.Clone(jumps), at(1)), 65535, api.OK}, {"jumps and one", append(slices.Clone(jumps), at(1), do(api.OpTrue)), 65536, api.OK},
		{"jumps and two", append(slices.Clone(jumps), at(1), do(api.OpI8)), 0, api.ErrLimit},
		{"a switch and eight", slices.Concat(row(wide, at(1)), trues[:8]), 65536, api.OK}, {"a switch and nine", slices.Concat(row(wide, at(1)), trues[:9]), 0, api.ErrLimit},
		{"too many and no label", append(slices.Clone(trues), do(api.OpJump, 1)), 0, api.ErrLabels},
		{"too many and no instruction", append(slices.Clone(trues), do(53)), 0, api.ErrOp},
		{"too many and a label twice", append(slices.Clone(trues), at(0), at(0)), 0, api.ErrLabels},
		{"too many and a jump", append(slices.Clone(trues), do(api.OpJump, 1), at(1)), 0, api.ErrLimit},
	} {
		got, err := Code(x.l)
		if err != x.err || len(got) != x.size {
			t.Errorf("Code of %s: %d bytes, %d, want %d, %d", x.name, len(got), err, x.size, x.err)
		}
		if err := Check(x.l); err != x.err && x.err != api.ErrLimit {
			t.Errorf("Check of %s: %d", x.name, err)
		}
	}
	got, _ := Code(slices.Concat(trues[:65531], row(do(api.OpJump, 7), at(7))))
	if !bytes.Equal(got[65531:], []byte{0x2e, 0, 0, 1, 0}) {
		t.Errorf("a jump to the end of the longest code: % x", got[65531:])
	}
	if l, err := Lines(got); err != api.OK || len(l) != 65533 || l[65531].X.A != 0 {
		t.Errorf("Lines of it: %d, %d", len(l), err)
	}
}

// A target ahead and one behind, over ways of each length there is.
func TestP15_5Places(t *testing.T) {
	for op := range 256 {
		x := do(uint8(op), 1)
		if op == 0 || plainBytes(x.X) == nil {
			continue
		}
		isRead(t, row(at(1), x, at(2), do(api.OpJump, 3), x, at(3), do(api.OpJump, 2)))
		isRead(t, row(at(2), x, x, choose(3, 2, 4, 1, 5, 3), x, at(1), x, at(3)))
	}
	for n := range 600 {
		l := row(do(api.OpWhen, 4), at(5))
		for range n {
			l = append(l, do(api.OpI64, int64(n)))
		}
		got, err := Code(append(l, at(4), do(api.OpUnless, 5)))
		to := 5 + 9*n
		if err != api.OK || len(got) != to+5 || !bytes.Equal(got[:5], []byte{0x30, byte(to), byte(to >> 8), 0, 0}) || !bytes.Equal(got[to:], []byte{0x2f, 5, 0, 0, 0}) {
			t.Fatalf("over %d instructions: % x .. % x, %d", n, got[:5], got[to:], err)
		}
	}
}
