package linear

import (
	"bytes"
	"testing"

	"trammel/api"
)

// follows holds lines that may be to what follows from the promises.
func follows(t *testing.T, m maker, l []api.Line) {
	t.Helper()
	normal, err := Normal(l)
	code, err2 := Code(l)
	if err|err2 != api.OK {
		t.Fatalf("of %s: %d, %d", tell(l), err, err2)
	}
	if again, err := Normal(normal); err != api.OK || !Same(again, normal) {
		t.Fatalf("Normal of %s: %s, %d", tell(normal), tell(again), err)
	}
	if other, err := Code(normal); err != api.OK || !bytes.Equal(other, code) {
		t.Fatalf("Code of %s: % x, of its Normal: % x", tell(l), code, other)
	}
	lines, err := Lines(code)
	if err != api.OK || !Same(lines, normal) {
		t.Fatalf("Lines of the Code of %s: %s, %d, want %s", tell(l), tell(lines), err, tell(normal))
	}
	if back, err := Code(lines); err != api.OK || !bytes.Equal(back, code) {
		t.Fatalf("Code of Lines of % x: % x, %d", code, back, err)
	}
	other := m.renamed(l)
	if n, err := Normal(other); err != api.OK || !Same(n, normal) {
		t.Fatalf("Normal of %s: %s; with other labels of %s: %s", tell(l), tell(normal), tell(other), tell(n))
	}
	if c, err := Code(other); err != api.OK || !bytes.Equal(c, code) {
		t.Fatalf("Code of %s: % x; with other labels of %s: % x", tell(l), code, tell(other), c)
	}
}

// renamed gives labels other numbers, in any order.
func (m maker) renamed(l []api.Line) []api.Line {
	to := map[int64]int64{}
	used := map[int64]bool{}
	for _, x := range l {
		if plainIsLabel(x) {
			n := m.Int63n(1 << (1 + m.Intn(31)))
			for used[n] {
				n = m.Int63n(1 << 31)
			}
			used[n] = true
			to[int64(x.Label)] = n
		}
	}
	var out []api.Line
	for _, x := range l {
		if plainIsLabel(x) {
			out = append(out, at(int(to[int64(x.Label)])))
		} else {
			out = append(out, api.Line{X: plainPut(x.X, func(n int64) int64 { return to[n] })})
		}
	}
	return out
}

func TestP15_8EachShortRow(t *testing.T) {
	m := madeBy(158)
	n := 0
	for length := range 6 {
		for l := range rowsOf(length, letters()) {
			if Check(l) == api.OK {
				follows(t, m, l)
				n++
			}
		}
	}
	if n < 1000 {
		t.Errorf("%d rows may be", n)
	}
}

func TestP15_8AtWill(t *testing.T) {
	m := madeBy(159)
	for range 20000 {
		follows(t, m, m.lines())
	}
}

// Code of Lines of a code is the code, whatever code it is.
func TestP15_8ThereAndBack(t *testing.T) {
	m := madeBy(160)
	taken := 0
	for range 60000 {
		code, _ := Code(m.lines())
		if len(code) == 0 {
			continue
		}
		code[m.Intn(len(code))] += byte(m.Intn(7))
		l, err := Lines(code)
		if err != api.OK {
			continue
		}
		taken++
		if back, err := Code(l); err != api.OK || !bytes.Equal(back, code) {
			t.Fatalf("Code of Lines of % x: % x, %d", code, back, err)
		}
		if n, err := Normal(l); err != api.OK || !Same(n, l) {
			t.Fatalf("Lines of % x: %s, Normal of them: %s, %d", code, tell(l), tell(n), err)
		}
	}
	if taken < 10000 {
		t.Errorf("%d codes were taken", taken)
	}
}

// Each label is a target, at each place of a long code.
func TestP15_8Long(t *testing.T) {
	const n = 3640 // 18 bytes each
	var l []api.Line
	for i := range n {
		l = append(l, at(2*i+1), do(api.OpJump, int64(1+2*((7*i)%n))), at(2*i), do(api.OpField, 7, 8), do(api.OpWhen, int64(2*i)), do(api.OpI8, 2), do(api.OpTrue))
	}
	follows(t, madeBy(161), l)
}
