package linear

import (
	"bytes"
	"fmt"
	"math"
	"math/rand"
	"testing"

	"trammel/api"
)

func at(label int) api.Line { return api.Line{Label: label} }

func do(op uint8, numbers ...int64) api.Line {
	x := api.Instr{Op: op}
	for i, n := range numbers {
		*[]*int64{&x.A, &x.B}[i] = n
	}
	return api.Line{X: x}
}

// choose is a switch whose arms' values and targets stand by turns.
func choose(width, other int64, arms ...int64) api.Line {
	x := api.Instr{Op: api.OpSwitch, A: width, B: other}
	for i := 0; i < len(arms); i += 2 {
		x.Arms = append(x.Arms, api.Arm{Value: arms[i], To: int(arms[i+1])})
	}
	return api.Line{X: x}
}

// armed is a line whose X has an arm.
func armed(x api.Line) api.Line {
	x.X.Arms = []api.Arm{{}}
	return x
}

func row(l ...api.Line) []api.Line { return l }

// tell shortens what a test tells of lines.
func tell(l []api.Line) string {
	s := fmt.Sprint(l)
	return s[:min(len(s), 300)]
}

// letters are lines of which short rows are made.
func letters() []api.Line {
	return row(at(0), at(1), do(api.OpTrue), do(api.OpJump, 0), do(api.OpWhen, 1), choose(1, 0, 5, 1), choose(2, 1), do(api.OpField, 3, 4))
}

// rowsOf tells all rows of so many of some lines.
func rowsOf(length int, some []api.Line) func(yield func([]api.Line) bool) {
	return func(yield func([]api.Line) bool) {
		for n, end := 0, int(math.Pow(float64(len(some)), float64(length))); n < end; n++ {
			var l []api.Line
			for k := n; len(l) < length; k /= len(some) {
				l = append(l, some[k%len(some)])
			}
			if !yield(l) {
				return
			}
		}
	}
}

// ends are the ends of all that an A, a B or a label may be, and one beyond each.
var ends = edges()

func edges() []int64 {
	list := []int64{math.MinInt64, math.MaxInt64, math.MinInt64 + 1, math.MaxInt64 - 1}
	for n := int64(-2); n <= 7; n++ {
		list = append(list, n)
	}
	for _, bits := range []int{7, 8, 15, 16, 31, 32} {
		for n := int64(-2); n <= 1; n++ {
			list = append(list, 1<<bits+n, -1<<bits+n)
		}
	}
	return list
}

// maker makes rows at will.
type maker struct{ *rand.Rand }

func madeBy(seed int64) maker { return maker{rand.New(rand.NewSource(seed))} }

// instr makes an instruction whose targets are of some labels.
func (m maker) instr(labels []int) api.Line {
	for {
		x := api.Instr{Op: uint8(1 + m.Intn(52))}
		_, kinds := plainOp(x.Op)
		for i, kind := range kinds {
			*[]*int64{&x.A, &x.B}[i] = m.number(kind)
		}
		if x.Op == api.OpSwitch {
			x.A = m.number("w1")
			for range m.Intn(4) {
				x.Arms = append(x.Arms, api.Arm{Value: m.number([]string{"s1", "s4", "s8"}[x.A-1])})
			}
		}
		if len(plainTold(x)) == 0 {
			return api.Line{X: x}
		}
		if len(labels) > 0 {
			return api.Line{X: plainPut(x, func(int64) int64 { return int64(labels[m.Intn(len(labels))]) })}
		}
	}
}

// number makes one of a kind, small ones and the ends more often than others.
func (m maker) number(kind string) int64 {
	for {
		n := ends[m.Intn(len(ends))]
		if m.Intn(2) == 0 {
			n = int64(m.Uint64()) >> m.Intn(64)
		}
		if plainMay(kind, n) {
			return n
		}
	}
}

// lines makes lines that may be.
func (m maker) lines() []api.Line {
	var labels []int
	seen := map[int]bool{}
	for range m.Intn(6) {
		n := m.Intn(8)
		if m.Intn(4) == 0 {
			n = int(m.number("u4") >> 1)
		}
		if !seen[n] {
			seen[n] = true
			labels = append(labels, n)
		}
	}
	var l []api.Line
	for range m.Intn(9) {
		l = append(l, m.instr(labels))
	}
	for _, n := range labels {
		k := m.Intn(len(l) + 1)
		l = append(l[:k:k], append(row(at(n)), l[k:]...)...)
	}
	return l
}

// spoilt makes lines of which some may not be.
func (m maker) spoilt() []api.Line {
	l := m.lines()
	for range 1 + m.Intn(3) {
		if len(l) == 0 {
			return row(at(-1))
		}
		k := m.Intn(len(l))
		x := &l[k]
		switch m.Intn(10) {
		case 0:
			x.Label = int(ends[m.Intn(len(ends))])
		case 1:
			x.X.A = ends[m.Intn(len(ends))]
		case 2:
			x.X.B = ends[m.Intn(len(ends))]
		case 3:
			x.X.Op = uint8(m.Intn(56))
		case 4:
			x.X.Arms = append(x.X.Arms[:len(x.X.Arms):len(x.X.Arms)], api.Arm{Value: m.Int63() >> m.Intn(64), To: m.Intn(9) - 1})
		case 5:
			x.X.Arms = nil
		case 6:
			l = append(l[:k:k], l[k+1:]...)
		case 7:
			l = append(l, l[k])
		case 8:
			x.X = plainPut(x.X, func(to int64) int64 { return to + int64(m.Intn(2)) })
		case 9:
			j := m.Intn(len(l))
			l[k], l[j] = l[j], l[k]
		}
	}
	return l
}

// isRead holds all calls that take lines to the second reading, and tells what Check answered.
func isRead(t *testing.T, l []api.Line) api.Errno {
	t.Helper()
	want := plainCheck(l)
	if err := Check(l); err != want {
		t.Fatalf("Check(%s) = %d, want %d", tell(l), err, want)
	}
	wantRow, wantErr := plainNormal(l)
	if got, err := Normal(l); err != wantErr || !plainSame(got, wantRow) {
		t.Fatalf("Normal(%s) = %s, %d, want %s, %d", tell(l), tell(got), err, tell(wantRow), wantErr)
	}
	wantText, wantErr := plainText(l)
	if got, err := Text(l); err != wantErr || got != wantText {
		t.Fatalf("Text(%s) = %q, %d, want %q, %d", tell(l), got, err, wantText, wantErr)
	}
	wantCode, wantErr := plainCode(l)
	got, err := Code(l)
	if err != wantErr || !bytes.Equal(got, wantCode) {
		t.Fatalf("Code(%s) = % x, %d, want % x, %d", tell(l), got, err, wantCode, wantErr)
	}
	if err == api.OK {
		isLined(t, got)
	}
	return want
}

// isLined holds Lines to the second reading.
func isLined(t *testing.T, code []byte) api.Errno {
	t.Helper()
	want, wantErr := plainLines(code)
	got, err := Lines(code)
	if err != wantErr || !plainSame(got, want) {
		t.Fatalf("Lines(% x) = %s, %d, want %s, %d", code[:min(len(code), 60)], tell(got), err, tell(want), wantErr)
	}
	return err
}

// The examples of the chapter, line by line.
func TestP15Examples(t *testing.T) {
	pick := row(choose(1, 0, 5, 0, -1, 1), at(0), at(1), do(api.OpReturn))
	same := row(choose(1, 0, 5, 0, -1, 0), at(0), do(api.OpReturn))
	for _, x := range []struct {
		l, normal []api.Line
		text      string
		code      []byte
	}{
		{nil, nil, "", nil},
		{row(at(7), do(api.OpTrue), do(api.OpWhen, 7)), row(at(0), do(api.OpTrue), do(api.OpWhen, 0)), "L7:\n\ttrue\n\twhen L7\n", []byte{4, 0x30, 0, 0, 0, 0}},
		{row(at(1), at(2), do(api.OpJump, 2), at(3)), row(at(0), do(api.OpJump, 0)), "L1:\nL2:\n\tjump L2\nL3:\n", []byte{0x2e, 0, 0, 0, 0}},
		{row(do(api.OpJump, 0), at(0)), row(do(api.OpJump, 0), at(0)), "\tjump L0\nL0:\n", []byte{0x2e, 5, 0, 0, 0}},
		{pick, same, "\tswitch 1 5:L0 -1:L1 L0\nL0:\nL1:\n\treturn\n", append(plainBytes(choose(1, 32, 5, 32, -1, 32).X), 0x33)},
	} {
		normal, err := Normal(x.l)
		text, err2 := Text(x.l)
		code, err3 := Code(x.l)
		if Check(x.l)|err|err2|err3 != api.OK || !plainSame(normal, x.normal) || text != x.text || !bytes.Equal(code, x.code) {
			t.Errorf("%v: %v, %q, % x", x.l, normal, text, code)
		}
	}
	for _, l := range [][]api.Line{row(at(0), at(0)), row(do(api.OpJump, 0)), row(at(-1))} {
		if err := Check(l); err != api.ErrLabels {
			t.Errorf("Check(%v) = %d", l, err)
		}
	}
	if err := Check(row(api.Line{X: api.Instr{A: 1}})); err != api.ErrOp {
		t.Errorf("Check of a label with an A: %d", err)
	}
	if l, err := Lines([]byte{0x2e, 1, 0, 0, 0}); l != nil || err != api.ErrJump {
		t.Errorf("Lines of a jump to 1: %v, %d", l, err)
	}
	if l, err := Lines([]byte{0x2e, 5, 0, 0, 0}); !plainSame(l, row(do(api.OpJump, 0), at(0))) || err != api.OK {
		t.Errorf("Lines of a jump to the end: %v, %d", l, err)
	}
}

// All rows of up to five lines out of eight, and of six out of six, whatever is wrong with them.
func TestP15EachShortRow(t *testing.T) {
	ended := map[api.Errno]int{}
	for length := range 6 {
		for l := range rowsOf(length, letters()) {
			ended[isRead(t, l)]++
		}
	}
	for l := range rowsOf(6, letters()[:6]) {
		ended[isRead(t, l)]++
	}
	if ended[api.OK] < 1000 || ended[api.ErrLabels] < 1000 || ended[api.ErrOp] > 0 {
		t.Errorf("ended by errors: %v", ended)
	}
}

func TestP15AtWill(t *testing.T) {
	m := madeBy(151)
	for range 20000 {
		l := m.lines()
		if err := isRead(t, l); err != api.OK {
			t.Fatalf("Check(%s) = %d", tell(l), err)
		}
	}
	ended := map[api.Errno]int{}
	for range 40000 {
		ended[isRead(t, m.spoilt())]++
	}
	for _, err := range []api.Errno{api.OK, api.ErrOp, api.ErrLabels} {
		if ended[err] < 1000 {
			t.Errorf("error %d came %d times", err, ended[err])
		}
	}
}
