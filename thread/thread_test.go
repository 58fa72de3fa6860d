package thread

import (
	"math"
	"slices"
	"testing"

	"trammel/api"
	"trammel/linear"
)

// others are numbers that are hardly a label's.
var others = []int{-1, 0, 1, 2, 3, 1 << 31, 1<<31 - 1, -1 << 31, math.MaxInt, math.MinInt}

// isRead holds all calls to the second reading, and tells how many rounds changed something.
func isRead(t *testing.T, l []api.Line) (int, api.Errno) {
	t.Helper()
	labels := others
	for _, x := range l {
		if plainIsLabel(x) {
			labels = append(labels[:len(labels):len(labels)], x.Label)
		}
	}
	for _, n := range labels {
		want, wantErr := plainLeads(l, n)
		if got, err := Leads(l, n); got != want || err != wantErr {
			t.Fatalf("Leads(%s, %d) = %d, %d, want %d, %d", tell(l), n, got, err, want, wantErr)
		}
	}
	is, wantErr := plainReached(l)
	if got, err := Reached(l); err != wantErr || !slices.Equal(got, is) {
		t.Fatalf("Reached(%s) = %v, %d, want %v, %d", tell(l), got, err, is, wantErr)
	}
	want, rounds, wantErr := plainThin(l)
	if got, err := Thin(l); err != wantErr || !linear.Same(got, want) {
		t.Fatalf("Thin(%s) = %s, %d, want %s, %d", tell(l), tell(got), err, tell(want), wantErr)
	}
	return rounds, wantErr
}

// The examples of the chapter, line by line.
func TestP17Examples(t *testing.T) {
	for _, x := range []struct{ l, thin []api.Line }{
		{nil, nil}, {row(yes(), back()), row(yes(), back())},
		{row(jump(0), yes(), at(0), back()), row(back())},
		{row(at(0), yes(), do(api.OpUnless, 1), back(), at(1), jump(0)), row(at(0), yes(), do(api.OpUnless, 0), back())},
		{row(at(0), jump(1), at(1), jump(0)), row(at(0), jump(0))},
		{row(yes(), when(0), jump(0), at(0), back()), row(yes(), when(0), at(0), back())},
		{row(at(0), at(1), jump(2), do(api.OpTrap, 0), at(2), yes(), when(1), back()), row(at(0), yes(), when(0), back())},
	} {
		if got, err := Thin(x.l); err != api.OK || !linear.Same(got, x.thin) {
			t.Errorf("Thin(%v) = %v, %d, want %v", x.l, got, err, x.thin)
		}
		isRead(t, x.l)
	}
}

// All rows of up to five lines out of nine, and of six out of seven, whatever is wrong with them.
func TestP17EachShortRow(t *testing.T) {
	letters := row(at(0), at(1), jump(0), jump(1), yes(), when(1), back(), choose(1, 0, 5, 1), do(api.OpTrap, 1))
	ended := map[api.Errno]int{}
	for length := range 6 {
		for l := range rowsOf(length, letters) {
			_, err := isRead(t, l)
			ended[err]++
		}
	}
	for l := range rowsOf(6, letters[:7]) {
		_, err := isRead(t, l)
		ended[err]++
	}
	if ended[api.OK] < 1000 || ended[api.ErrLabels] < 1000 || len(ended) != 2 {
		t.Errorf("ended by errors: %v", ended)
	}
}

// All rings of up to four labels, in any order, with all jumps among them, all of them come to.
func TestP17EachRing(t *testing.T) {
	for n := range 5 {
		var tests, letters []api.Line
		for to := range int64(n) {
			tests = append(tests, yes(), when(to))
			letters = append(letters, jump(to))
		}
		for jumps := range rowsOf(n, letters) {
			l := tests
			for i, x := range jumps {
				l = append(l[:len(l):len(l)], at(i), x)
			}
			isRead(t, l)
			isRead(t, l[len(tests):])
			isRead(t, append(l[:len(l):len(l)], back()))
		}
	}
}

func TestP17AtWill(t *testing.T) {
	m := madeBy(171)
	rounds := map[int]int{}
	for range 15000 {
		for _, l := range [][]api.Line{m.lines(), m.rings()} {
			n, err := isRead(t, l)
			if err != api.OK {
				t.Fatalf("%s: %d", tell(l), err)
			}
			rounds[n]++
		}
	}
	if rounds[0] < 1000 || rounds[1] < 1000 || rounds[2] < 50 || rounds[3] == 0 {
		t.Errorf("so many rounds changed something: %v", rounds)
	}
}

func TestP17Spoilt(t *testing.T) {
	m := madeBy(172)
	ended := map[api.Errno]int{}
	for range 20000 {
		_, err := isRead(t, m.spoilt())
		ended[err]++
	}
	for _, err := range []api.Errno{api.OK, api.ErrOp, api.ErrLabels} {
		if ended[err] < 500 {
			t.Errorf("error %d came %d times", err, ended[err])
		}
	}
}

// Other labels' numbers change nothing but these.
func TestP17Renamed(t *testing.T) {
	m := madeBy(173)
	for range 10000 {
		l := m.lines()
		other := m.renamed(l)
		thin, _ := Thin(l)
		is, _ := Reached(l)
		if got, err := Thin(other); err != api.OK || !linear.Same(got, thin) {
			t.Fatalf("Thin(%s) = %s; with other labels of %s: %s, %d", tell(l), tell(thin), tell(other), tell(got), err)
		}
		if got, err := Reached(other); err != api.OK || !slices.Equal(got, is) {
			t.Fatalf("Reached(%s) = %v; with other labels of %s: %v, %d", tell(l), is, tell(other), got, err)
		}
		for i, x := range l {
			if !plainIsLabel(x) {
				continue
			}
			a, _ := Leads(l, x.Label)
			b, err := Leads(other, other[i].Label)
			if err != api.OK || plainAt(l, a) != plainAt(other, b) {
				t.Fatalf("Leads(%s, %d) = %d; with other labels of %s: %d, %d", tell(l), x.Label, a, tell(other), b, err)
			}
		}
	}
}
