package linear

import (
	"strings"
	"testing"

	"trammel/api"
)

func TestP15_4Text(t *testing.T) {
	for _, x := range []struct {
		l    []api.Line
		want string
	}{
		{nil, ""}, {row(), ""}, {row(at(0)), "L0:\n"}, {row(at(1<<31 - 1)), "L2147483647:\n"}, {row(at(10), at(2)), "L10:\nL2:\n"},
		{row(do(api.OpTrue)), "\ttrue\n"}, {row(do(api.OpReturn), do(api.OpPop)), "\treturn\n\tpop\n"},
		{row(do(api.OpI8, -128)), "\ti8 -128\n"}, {row(do(api.OpI8)), "\ti8 0\n"}, {row(do(api.OpI32, -1<<31)), "\ti32 -2147483648\n"},
		{row(do(api.OpI64, -1<<63)), "\ti64 -9223372036854775808\n"}, {row(do(api.OpI64, 1<<63-1)), "\ti64 9223372036854775807\n"},
		{row(do(api.OpText, 65535)), "\ttext 65535\n"}, {row(do(api.OpGet)), "\tget 0\n"}, {row(do(api.OpTrap, 255)), "\ttrap 255\n"},
		{row(do(api.OpField, 16, 0)), "\tfield 16 0\n"}, {row(do(api.OpSetField, 0, 3)), "\tsetfield 0 3\n"}, {row(do(api.OpSetField)), "\tsetfield 0 0\n"},
		{row(do(api.OpConv, 1, 3)), "\tconv 1 3\n"}, {row(do(api.OpConv, 2, 2)), "\tconv 2 2\n"}, {row(do(api.OpAdd, 3)), "\tadd 3\n"}, {row(do(api.OpEq, 5)), "\teq 5\n"},
		{row(at(12), do(api.OpJump, 12), do(api.OpUnless, 12), do(api.OpWhen, 12)), "L12:\n\tjump L12\n\tunless L12\n\twhen L12\n"},
		{row(at(4), choose(1, 4)), "L4:\n\tswitch 1 L4\n"}, {row(at(4), choose(2, 4, 1<<31-1, 4)), "L4:\n\tswitch 2 2147483647:L4 L4\n"},
		{row(at(4), at(5), choose(3, 5, -1<<63, 4, 0, 5, 0, 4)), "L4:\nL5:\n\tswitch 3 -9223372036854775808:L4 0:L5 0:L4 L5\n"},
	} {
		isRead(t, x.l)
		if got, err := Text(x.l); err != api.OK || got != x.want {
			t.Errorf("Text(%v) = %q, %d, want %q", x.l, got, err, x.want)
		}
	}
}

// Of each Op: its name, and as many numbers as it has.
func TestP15_4EachOp(t *testing.T) {
	want := strings.Fields(`i8_1 i32_1 i64_1 true false text_1 get_1 put_1 pop dup add_1 sub_1 mul_1 div_1 rem_1 and_1 or_1 xor_1 shl_1 shr_1 neg_1 not_1
		eq_1 ne_1 lt_1 le_1 gt_1 ge_1 conv_1_1 flip cat size charat cut byte new_1 field_1_1 setfield_1_1 fill_1 empty_1 at_1 setat_1 len_1 push_1 drop_1
		jump_L1 unless_L1 when_L1 switch_1_L1 call_1 return trap_1`)
	for i, s := range want {
		x := do(uint8(1+i), []int64{1, 1}[:strings.Count(s, "1")]...) // no name has a 1
		isRead(t, row(x, at(1)))
		if got, err := Text(row(x, at(1))); err != api.OK || got != "\t"+strings.ReplaceAll(s, "_", " ")+"\nL1:\n" {
			t.Errorf("Text of %v: %q, %d, want %q", x, got, err, s)
		}
	}
	if len(want) != 52 {
		t.Errorf("%d Ops", len(want))
	}
}

// A text is put together of its lines' own texts.
func TestP15_4LineByLine(t *testing.T) {
	m := madeBy(154)
	for range 5000 {
		l := m.lines()
		whole, err := Text(l)
		if err != api.OK || strings.Count(whole, "\n") != len(l) || whole != "" && !strings.HasSuffix(whole, "\n") {
			t.Fatalf("Text(%s) = %q, %d", tell(l), whole, err)
		}
		for i, s := range strings.SplitAfter(whole, "\n")[:len(l)] {
			if plainIsLabel(l[i]) != strings.HasPrefix(s, "L") || plainIsLabel(l[i]) == strings.HasPrefix(s, "\t") {
				t.Fatalf("Text(%s): line %d is %q", tell(l), i, s)
			}
		}
	}
}

func TestP15_4Long(t *testing.T) {
	x := choose(1, 5)
	x.X.Arms = make([]api.Arm, 65535)
	for i := range x.X.Arms {
		x.X.Arms[i].To = 5
	}
	got, err := Text(row(x, at(5)))
	if err != api.OK || got != "\tswitch 1"+strings.Repeat(" 0:L5", 65535)+" L5\nL5:\n" {
		t.Errorf("Text of a long switch: %d bytes, %d", len(got), err)
	}
}
