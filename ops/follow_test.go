package ops

import (
	"bytes"
	"math/rand"
	"slices"
	"testing"

	"trammel/api"
)

// Decode of what Encode tells is the instruction, and its size, whatever stands ahead and behind; of fewer of its bytes it is ErrShort.
func TestP12_5ThereAndBack(t *testing.T) {
	for _, x := range good() {
		b, err := Encode(x)
		if err != api.OK || len(b) != Size(x) {
			t.Fatalf("Encode(%s): % x, %d, Size %d", tell(x), b, err, Size(x))
		}
		if got, next, err := Decode(b, 0); !same(got, x) || next != len(b) || err != api.OK {
			t.Fatalf("Decode(% x) = %s, %d, %d, want %s", b, tell(got), next, err, tell(x))
		}
		row := slices.Concat([]byte{9, 0xff}, b, []byte{0, 0xff})
		if got, next, err := Decode(row, 2); !same(got, x) || next != 2+len(b) || err != api.OK {
			t.Fatalf("Decode(% x, 2) = %s, %d, %d, want %s", row, tell(got), next, err, tell(x))
		}
		for n := 1; n < len(b); n++ {
			if got, next, err := Decode(b[:n], 0); !same(got, api.Instr{}) || next != 0 || err != api.ErrShort {
				t.Fatalf("Decode(% x) = %s, %d, %d, want ErrShort", b[:n], tell(got), next, err)
			}
		}
	}
}

// The same for switches of very many arms, at some of their bytes.
func TestP12_5ManyArms(t *testing.T) {
	for _, n := range []int{0, 1, 2, 300, 65535} {
		x := api.Instr{Op: api.OpSwitch, A: api.I32, B: 1<<32 - 1, Arms: many(n)}
		b, _ := Encode(x)
		got, next, err := Decode(b, 0)
		if !same(got, x) || next != Size(x) || err != api.OK {
			t.Fatalf("a switch of %d arms: %s, %d, %d", n, tell(got), next, err)
		}
		for cut := 1; cut < len(b); cut += 1 + len(b)/50 {
			if _, _, err := Decode(b[:cut], 0); err != api.ErrShort {
				t.Fatalf("%d bytes of a switch of %d arms: %d", cut, n, err)
			}
		}
	}
}

// Encode of what Decode answers is the bytes from the one place to the other.
func TestP12_5BackAndThere(t *testing.T) {
	m := rand.New(rand.NewSource(125))
	read := 0
	for range 300000 {
		b := make([]byte, m.Intn(40))
		for i := range b {
			b[i] = byte(m.Intn(256) >> (m.Intn(9)))
		}
		at := m.Intn(len(b) + 1)
		x, next, err := Decode(b, at)
		if err != api.OK {
			continue
		}
		read++
		if got, err := Encode(x); err != api.OK || next <= at || !bytes.Equal(got, b[at:next]) || Size(x) != next-at {
			t.Fatalf("Decode(% x, %d) = %s, %d; Encode of it: % x, %d", b, at, tell(x), next, got, err)
		}
	}
	if read < 10000 {
		t.Errorf("%d instructions were read", read)
	}
}

// All of several instructions' bytes, one behind the other, is just these, each place being the sum of the sizes ahead.
func TestP12_5Several(t *testing.T) {
	m := rand.New(rand.NewSource(126))
	list := good()
	for range 5000 {
		var want []api.Instr
		var places []int
		var b []byte
		sum := 0
		for range m.Intn(30) {
			x := list[m.Intn(len(list))]
			row, _ := Encode(x)
			want, places, b = append(want, x), append(places, sum), append(b, row...)
			sum += Size(x)
		}
		got, gotPlaces, err := All(b)
		if err != api.OK || !slices.EqualFunc(got, want, same) || !slices.Equal(gotPlaces, places) {
			t.Fatalf("All(% x) = %v at %v, %d, want %v at %v", b, got, gotPlaces, err, want, places)
		}
		if len(b) > 0 {
			last := places[len(places)-1]
			for n := last + 1; n < len(b); n++ {
				if got, gotPlaces, err := All(b[:n]); err != api.ErrShort || len(got)+len(gotPlaces) > 0 {
					t.Fatalf("All(% x) = %v at %v, %d, want ErrShort", b[:n], got, gotPlaces, err)
				}
			}
		}
	}
}

// All of a long code of every instruction, in their order.
func TestP12_5Long(t *testing.T) {
	want := good()
	var b []byte
	for _, x := range want {
		row, _ := Encode(x)
		b = append(b, row...)
	}
	got, places, err := All(b)
	if err != api.OK || !slices.EqualFunc(got, want, same) || len(places) != len(want) {
		t.Fatalf("All of %d instructions: %d at %d places, %d", len(want), len(got), len(places), err)
	}
	sum := 0
	for i, at := range places {
		if at != sum {
			t.Fatalf("instruction %d stands at %d, want %d", i, at, sum)
		}
		sum += Size(want[i])
	}
}

func TestP12_5NamesAreUnlike(t *testing.T) {
	seen := map[string]int{}
	for op := range 256 {
		if name := Name(uint8(op)); name != "" {
			if old, ok := seen[name]; ok {
				t.Errorf("the Ops %d and %d are both %s", old, op, name)
			}
			seen[name] = op
		}
	}
	if len(seen) != 52 {
		t.Errorf("%d names", len(seen))
	}
}
