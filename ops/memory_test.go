package ops

import (
	"bytes"
	"fmt"
	"slices"
	"testing"

	"trammel/api"
)

// cut tells the first so many of a list, with the rest behind it in its memory.
func cut[T any](list []T, n int) []T { return list[:n:len(list)] }

// spoil overwrites a list, and what lies behind it.
func spoil[T any](list []T, x T) {
	list = list[:cap(list)]
	for i := range list {
		list[i] = x
	}
}

// What Encode is handed stays as it is, behind the list's length too, and what it answered stays when that is changed.
func TestP12_4Encode(t *testing.T) {
	whole := arms(1, 2, 3, 4, 5)
	x := api.Instr{Op: api.OpSwitch, A: 1, B: 9, Arms: cut(whole, 3)}
	want := plainBytes(x)
	first, _ := Encode(x)
	second, _ := Encode(x)
	if Size(x) != len(want) || !slices.Equal(whole, arms(1, 2, 3, 4, 5)) {
		t.Fatalf("handed in: %v", whole)
	}
	if takes, _, err := Takes(x, sample()); err != api.OK || len(takes) != 1 || !slices.Equal(whole, arms(1, 2, 3, 4, 5)) {
		t.Fatalf("handed in to Takes: %v", whole)
	}
	spoil(whole, api.Arm{Value: 77, To: 77})
	if !bytes.Equal(first, want) {
		t.Errorf("behind a change of the arms: % x, want % x", first, want)
	}
	spoil(first, 0xee)
	if !bytes.Equal(second, want) {
		t.Errorf("behind a change of another answer: % x, want % x", second, want)
	}
	if again, _ := Encode(api.Instr{Op: api.OpSwitch, A: 1, B: 9, Arms: arms(1, 2, 3)}); !bytes.Equal(again, want) {
		t.Errorf("behind all changes: % x, want % x", again, want)
	}
}

// Of each Op: bytes that were answered are nobody else's.
func TestP12_4EncodeEachOp(t *testing.T) {
	for _, x := range good() {
		first, _ := Encode(x)
		spoil(first, 0xee)
		if second, _ := Encode(x); !bytes.Equal(second, plainBytes(x)) {
			t.Fatalf("Encode(%s) behind a change of its answer: % x", tell(x), second)
		}
	}
}

func TestP12_4Decode(t *testing.T) {
	want := api.Instr{Op: api.OpSwitch, A: 1, B: 9, Arms: arms(1, 2, 3)}
	whole := append(plainBytes(want), 1, 2, 3, 4)
	n := len(whole) - 4
	kept := slices.Clone(whole)
	first, _, _ := Decode(cut(whole, n), 0)
	second, _, _ := Decode(cut(whole, n), 0)
	list, places, _ := All(cut(whole, n))
	if !bytes.Equal(whole, kept) {
		t.Fatalf("handed in: % x, want % x", whole, kept)
	}
	spoil(whole, 0)
	if !same(first, want) || len(list) != 1 || !same(list[0], want) || !slices.Equal(places, []int{0}) {
		t.Errorf("behind a change of the code: %s, %v", tell(first), list)
	}
	spoil(first.Arms, api.Arm{Value: 77})
	if !same(second, want) || !same(list[0], want) {
		t.Errorf("behind a change of another answer: %s, %s", tell(second), tell(list[0]))
	}
}

// The instructions that All answers share no arms, with each other or with another answer.
func TestP12_4All(t *testing.T) {
	x := api.Instr{Op: api.OpSwitch, A: 1, B: 9, Arms: arms(1, 2, 3)}
	b := slices.Repeat(plainBytes(x), 3)
	list, places, _ := All(b)
	other, otherPlaces, _ := All(b)
	for i := range list {
		spoil(list[i].Arms, api.Arm{Value: 77})
		for j := i + 1; j < len(list); j++ {
			if !same(list[j], x) {
				t.Errorf("instruction %d, behind a change of number %d: %s", j, i, tell(list[j]))
			}
		}
	}
	spoil(list, api.Instr{})
	spoil(places, -1)
	if !slices.EqualFunc(other, []api.Instr{x, x, x}, same) || !slices.Equal(otherPlaces, []int{0, 44, 88}) {
		t.Errorf("behind a change of another answer: %v, %v", other, otherPlaces)
	}
}

// What Takes answers is neither the module's nor that of another answer, nor are its two lists one.
func TestP12_4Takes(t *testing.T) {
	m := sample()
	m.Funcs = append(m.Funcs, api.Routine{Params: []int{1, 2, 3}, Results: []int{4, 5}})
	shared := []int{1, 2, 3, 4, 5}
	m.Funcs = append(m.Funcs, api.Routine{Params: cut(shared, 3), Results: cut(shared, 3)})
	before := fmt.Sprint(m)
	var list []api.Instr
	for _, x := range append(told(), reckoned()...) {
		list = append(list, x.x)
	}
	for n := range m.Funcs {
		list = append(list, api.Instr{Op: api.OpCall, A: int64(n)})
	}
	for _, x := range list {
		takes, puts, _ := Takes(x, m)
		otherTakes, otherPuts, _ := Takes(x, m)
		wantTakes, wantPuts, _ := plainTakes(x, m)
		spoil(otherTakes, 777)
		spoil(otherPuts, 777)
		if !slices.Equal(takes, wantTakes) || !slices.Equal(puts, wantPuts) {
			t.Errorf("Takes(%s), behind a change of another answer: %v, %v, want %v, %v", tell(x), takes, puts, wantTakes, wantPuts)
		}
		spoil(takes, 888)
		if !slices.Equal(puts, wantPuts) {
			t.Errorf("Takes(%s), behind a change of what is taken: %v, want %v", tell(x), puts, wantPuts)
		}
	}
	if after := fmt.Sprint(m); after != before || !slices.Equal(shared, []int{1, 2, 3, 4, 5}) {
		t.Errorf("the module: %s, want %s; %v", after, before, shared)
	}
}

// What Takes answered stays when the module is changed.
func TestP12_4TakesKept(t *testing.T) {
	m := sample()
	takes, puts, _ := Takes(api.Instr{Op: api.OpCall}, m)
	fields, made, _ := Takes(api.Instr{Op: api.OpNew, A: 16}, m)
	spoil(m.Funcs[0].Params, 777)
	spoil(m.Funcs[0].Results, 777)
	spoil(m.Types[0].Fields, api.Field{Type: 777})
	if got := fmt.Sprint(takes, puts, fields, made); got != "[4 1] [3 5] [2 17] [16]" {
		t.Errorf("behind a change of the module: %s", got)
	}
}
