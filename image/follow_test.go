package image

import (
	"bytes"
	"encoding/binary"
	"math/rand"
	"slices"
	"testing"

	"trammel/api"
)

func TestP13_5ThereAndBack(t *testing.T) {
	r := rand.New(rand.NewSource(136))
	for range 20000 {
		m := anyModule(r)
		b, err := Encode(m)
		if err != api.OK {
			t.Fatalf("Encode(%v): %d", m, err)
		}
		back, at, err := Load(b)
		if at != 0 || err != api.OK || !Same(back, m) || !isSame(back, m) {
			t.Fatalf("Load of Encode(%v) = %v, %d, %d", m, back, at, err)
		}
		if Check(back) != api.OK {
			t.Fatalf("Check of what was loaded: %v", back)
		}
	}
}

// What Load takes, Encode tells again, byte for byte.
func TestP13_5BackAndThere(t *testing.T) {
	r := rand.New(rand.NewSource(137))
	taken := 0
	for range 100000 {
		body := plainBody(anyModule(r))
		body[r.Intn(len(body))] ^= 1 << r.Intn(8)
		b := wrap(body)
		m, _, err := Load(b)
		if err != api.OK {
			continue
		}
		taken++
		if again, err := Encode(m); err != api.OK || !bytes.Equal(again, b) {
			t.Fatalf("Encode of Load(% x) = % x, %d", b, again, err)
		}
	}
	if taken < 10000 {
		t.Errorf("%d were taken", taken)
	}
}

// A module's bytes of which one is another one: what is told of it, at each place and of each other byte.
func TestP13_5OneByteChanged(t *testing.T) {
	for _, b := range images()[:8] {
		end := len(b) - 4
		for i := range b {
			for c := 1; c < 256; c++ {
				x := slices.Clone(b)
				x[i] ^= byte(c)
				at, want := end, api.ErrModule // the body is another one, or its sum
				if length := int(binary.LittleEndian.Uint32(x[4:])); i < 4 {
					at = i
				} else if i < 8 && length > end-8 {
					at, want = len(b), api.ErrShort
				} else if i < 8 {
					at = length + 12
				}
				isRefused(t, "a byte changed", x, at, want)
			}
		}
	}
}

// Fewer bytes, wherever they are taken away, and more, wherever they are put.
func TestP13_5FewerAndMore(t *testing.T) {
	for _, b := range images() {
		for i := range b {
			for n := 1; n <= 4 && i+n <= len(b); n++ {
				if _, _, err := Load(slices.Delete(slices.Clone(b), i, i+n)); err == api.OK {
					t.Errorf("% x without %d bytes at %d is taken", b, n, i)
				}
				if _, _, err := Load(slices.Insert(slices.Clone(b), i, make([]byte, n)...)); err == api.OK {
					t.Errorf("% x with %d bytes more at %d is taken", b, n, i)
				}
			}
		}
		for n := 1; n <= 16; n++ {
			isRefused(t, "more behind", append(slices.Clone(b), make([]byte, n)...), len(b), api.ErrModule)
		}
	}
}

// Two modules that differ in one thing have unlike bytes, and so have any two.
func TestP13_5UnlikeModules(t *testing.T) {
	list := map[string]string{"unchanged": ""}
	names := map[string]string{}
	for name, change := range changes() {
		m := sample()
		change(&m)
		if b, err := Encode(m); err == api.OK {
			list[name] = string(b)
		}
	}
	b, _ := Encode(sample())
	list["unchanged"] = string(b)
	for name, b := range list {
		if other, ok := names[b]; ok {
			t.Errorf("%s and %s have the same bytes", name, other)
		}
		names[b] = name
	}
	if len(list) < 20 {
		t.Errorf("%d of the changed modules may be", len(list))
	}
}

func TestP13_5AnyTwoModules(t *testing.T) {
	r := rand.New(rand.NewSource(138))
	seen := map[string]api.Module{}
	alike := 0
	for range 50000 {
		m := anyModule(r)
		b, _ := Encode(m)
		if other, ok := seen[string(b)]; ok {
			alike++
			if !Same(m, other) || !isSame(m, other) {
				t.Fatalf("%v and %v have the same bytes", m, other)
			}
		}
		seen[string(b)] = m
	}
	if alike < 100 {
		t.Errorf("%d came twice", alike)
	}
}

// A module with all that it can have, there and back.
func TestP13_5Greatest(t *testing.T) {
	for _, m := range []api.Module{
		{Types: grows(256), Texts: slices.Repeat([]string{"text"}, 32768), Funcs: slices.Repeat([]api.Routine{{Name: "f", Params: ints(271, 32), Results: ints(16, 8), Locals: 256, Stack: 4096, Code: trues(4096)}}, 256)},
		{Types: slices.Repeat([]api.Type{{Kind: api.Record, Name: long(200), Fields: slices.Repeat([]api.Field{{Name: long(128), Type: 271}}, 32)}}, 256)},
		ofSize(t, 2097152),
	} {
		b, err := Encode(m)
		if err != api.OK {
			t.Fatalf("Encode: %d", err)
		}
		back, at, err := Load(b)
		if at != 0 || err != api.OK || !Same(back, m) || !isSame(back, m) {
			t.Errorf("Load of Encode: %d, %d", at, err)
		}
	}
}
