package image

import (
	"bytes"
	"slices"
	"testing"

	"trammel/api"
)

// spoil overwrites a list, and what lies behind it.
func spoil[T any](list []T, x T) {
	list = list[:cap(list)]
	for i := range list {
		list[i] = x
	}
}

// behind puts a list at the beginning of a longer memory.
func behind[T any](list []T, rest ...T) []T { return append(list, rest...)[:len(list)] }

// roomy is the module that sample makes, each list with more behind it.
func roomy() api.Module {
	m := sample()
	for i := range m.Types {
		m.Types[i].Fields = behind(m.Types[i].Fields, api.Field{Name: "behind", Type: 9})
	}
	for i := range m.Funcs {
		m.Funcs[i].Params = behind(m.Funcs[i].Params, 77)
		m.Funcs[i].Results = behind(m.Funcs[i].Results, 77)
		m.Funcs[i].Code = behind(m.Funcs[i].Code, 77)
	}
	m.Types = behind(m.Types, api.Type{Kind: 77})
	m.Texts = behind(m.Texts, "behind")
	m.Funcs = behind(m.Funcs, api.Routine{Name: "behind"})
	return m
}

// whole is a module with what lies behind its lists.
func whole(m api.Module) api.Module {
	m.Types, m.Texts, m.Funcs = slices.Clone(m.Types[:cap(m.Types)]), slices.Clone(m.Texts[:cap(m.Texts)]), slices.Clone(m.Funcs[:cap(m.Funcs)])
	for i := range m.Types {
		m.Types[i].Fields = slices.Clone(m.Types[i].Fields[:cap(m.Types[i].Fields)])
	}
	for i := range m.Funcs {
		f := &m.Funcs[i]
		f.Params, f.Results, f.Code = slices.Clone(f.Params[:cap(f.Params)]), slices.Clone(f.Results[:cap(f.Results)]), slices.Clone(f.Code[:cap(f.Code)])
	}
	return m
}

func TestP13_4ModuleIsOnlyRead(t *testing.T) {
	m := roomy()
	before := written(whole(m))
	Check(m)
	Encode(m)
	Same(m, roomy())
	Same(sample(), m)
	if after := written(whole(m)); after != before {
		t.Errorf("the module: %s, want %s", after, before)
	}
}

func TestP13_4Encode(t *testing.T) {
	m, want := roomy(), wrap(plainBody(sample()))
	first, _ := Encode(m)
	second, _ := Encode(m)
	spoil(m.Funcs[0].Code, 0xee)
	spoil(m.Texts, "other")
	if !bytes.Equal(first, want) {
		t.Errorf("behind a change of the module: % x, want % x", first, want)
	}
	spoil(first, 0xee)
	if !bytes.Equal(second, want) {
		t.Errorf("behind a change of another answer: % x, want % x", second, want)
	}
	if third, _ := Encode(sample()); !bytes.Equal(third, want) {
		t.Errorf("behind all changes: % x, want % x", third, want)
	}
}

func TestP13_4Load(t *testing.T) {
	image := append(wrap(plainBody(sample())), 1, 2, 3, 4)
	b, kept := image[:len(image)-4], slices.Clone(image)
	first, _, _ := Load(b)
	second, _, _ := Load(b)
	for i := range b {
		Load(b[:i])
	}
	if !bytes.Equal(image, kept) {
		t.Fatalf("handed in: % x, want % x", image, kept)
	}
	spoilModuleWhole(first)
	if !bytes.Equal(image, kept) {
		t.Fatalf("handed in, behind a change of an answer: % x, want % x", image, kept)
	}
	spoil(image, 0xee)
	if !isSame(second, sample()) {
		t.Errorf("behind a change of the bytes and of another answer: %v", second)
	}
	if third, _, err := Load(kept[:len(b)]); err != api.OK || !isSame(third, sample()) {
		t.Errorf("behind all changes: %v, %d", third, err)
	}
}

// spoilModuleWhole overwrites all lists of a module, the inner ones first.
func spoilModuleWhole(m api.Module) {
	for _, x := range m.Types {
		spoil(x.Fields, api.Field{Name: "spoilt", Type: -1})
	}
	for _, f := range m.Funcs {
		spoil(f.Params, -1)
		spoil(f.Results, -1)
		spoil(f.Code, 0xee)
	}
	spoil(m.Types, api.Type{Kind: 99})
	spoil(m.Texts, "spoilt")
	spoil(m.Funcs, api.Routine{Name: "spoilt"})
}

// Of the lists that Load answers no two share memory, nor does what lies behind them.
func TestP13_4LoadWithin(t *testing.T) {
	one := api.Routine{Params: []int{1, 2, 3}, Results: []int{1, 2, 3}, Locals: 3, Code: []byte{4, 4, 4}}
	typ := api.Type{Kind: api.Record, Fields: fields(3)}
	want := api.Module{Types: []api.Type{typ, typ, typ}, Funcs: []api.Routine{one, one, one}}
	b := wrap(plainBody(want))
	for i := range 3 {
		for which := range 4 {
			m, _, _ := Load(b)
			keep := written(m)
			f := &m.Funcs[i]
			switch which {
			case 0:
				spoil(f.Params, 77)
				f.Params = []int{1, 2, 3}
			case 1:
				spoil(f.Results, 77)
				f.Results = []int{1, 2, 3}
			case 2:
				spoil(f.Code, 77)
				f.Code = []byte{4, 4, 4}
			case 3:
				spoil(m.Types[i].Fields, api.Field{Name: "spoilt"})
				m.Types[i].Fields = fields(3)
			}
			if got := written(m); got != keep {
				t.Errorf("behind a change of list %d of number %d: %s, want %s", which, i, got, keep)
			}
		}
	}
}
