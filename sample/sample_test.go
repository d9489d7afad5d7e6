package sample_test

import (
	"bytes"
	"testing"

	"taciturn/api"
	"taciturn/image"
	"taciturn/link"
	"taciturn/sample"
	"taciturn/verify"
)

// TestSamples: each is right, made anew, and has no list twice.
func TestSamples(t *testing.T) {
	for n, make := range []func() api.Image{sample.Least, sample.Empty, sample.Some, sample.Most, sample.NewDice(1).Image} {
		i := make()
		if !image.Right(i) || !sample.Apart(i) {
			t.Errorf("sample %d: %+v", n, i)
		}
		sample.Spoil(i)
		if !image.Right(make()) {
			t.Errorf("sample %d is not made anew", n)
		}
	}
}

// TestApart: lists that share memory are seen, in their spare room too.
func TestApart(t *testing.T) {
	turns := []func(i *api.Image){
		func(i *api.Image) { i.Methods[1].Params = i.Fields[:1] },
		func(i *api.Image) { i.Imports[0].Params = i.Exports[1:] },
		func(i *api.Image) { i.Exports, i.Fields = i.Exports[2:], i.Exports[:2] },
		func(i *api.Image) { i.Methods[0].Code = i.Methods[1].Code[1:] },
		func(i *api.Image) { i.Methods[0].Locals, i.Fields = i.Fields[1:], i.Fields[:0] },
	}
	for n, turn := range turns {
		i := sample.Some()
		turn(&i)
		if sample.Apart(i) {
			t.Errorf("turn %d is not seen", n)
		}
	}
}

// TestRoomy: what is written into a list, or behind it, is seen.
func TestRoomy(t *testing.T) {
	turns := []func(i api.Image){
		func(i api.Image) { i.Fields[0] = 1 },
		func(i api.Image) { _ = append(i.Fields, 1) },
		func(i api.Image) { _ = append(i.Exports, 1) },
		func(i api.Image) { _ = append(i.Imports[0].Params, 1) },
		func(i api.Image) { _ = append(i.Imports, api.Import{}) },
		func(i api.Image) { _ = append(i.Methods, api.Method{}) },
		func(i api.Image) { _ = append(i.Methods[0].Code, api.Instr{}) },
	}
	for n, turn := range turns {
		i, whole := sample.Roomy()
		if !whole() {
			t.Errorf("turn %d: not whole ahead of it", n)
		}
		turn(i)
		if whole() {
			t.Errorf("turn %d is not seen", n)
		}
	}
}

// TestDice: the same images each time, and not one alone.
func TestDice(t *testing.T) {
	d, again := sample.NewDice(3), sample.NewDice(3)
	last := sample.Least()
	for range 50 {
		i := d.Image()
		if !image.Right(i) || !image.Same(i, again.Image()) || image.Same(i, last) {
			t.Errorf("%+v", i)
		}
		last = i
	}
}

// TestTaken: images that verify takes, the same ones each time, each with lists of
// its own, and not of the others that it is told.
func TestTaken(t *testing.T) {
	d, again := sample.NewDice(3), sample.NewDice(3)
	imports := 0
	for range 50 {
		i := d.Taken("a", nil)
		other := d.Taken("b", []api.Image{i})
		for _, one := range []api.Image{i, other} {
			if where, e := verify.Verify(one); e != api.OK || !sample.Apart(one) {
				t.Errorf("%+v: %d at %+v", one, e, where)
			}
		}
		imports += len(other.Imports)
		same := again.Taken("a", nil)
		if !image.Same(i, same) || !image.Same(other, again.Taken("b", []api.Image{same})) || image.Same(i, other) {
			t.Errorf("%+v, and %+v", i, other)
		}
		sample.Spoil(other)
		if !image.Same(i, same) {
			t.Errorf("%+v has a list of another one", i)
		}
	}
	if imports < 50 {
		t.Errorf("%d imports, too few to tell", imports)
	}
}

// TestFleet: as many images as a room may have at most, that verify takes, the
// same ones each time, that call one another; and bytes.
func TestFleet(t *testing.T) {
	d, again := sample.NewDice(3), sample.NewDice(3)
	counts, imports := map[int]int{}, 0
	for range 40 {
		all, same := d.Fleet(), again.Fleet()
		counts[len(all)]++
		for k, i := range all {
			if _, e := verify.Verify(i); e != api.OK || !image.Same(i, same[k]) || link.Find(all, i.Name) != k {
				t.Errorf("image %d: %d, %+v", k, e, i)
			}
			for n := range i.Imports {
				if _, _, ok := link.Resolve(all, k, n); ok {
					imports++
				}
			}
		}
		if b := d.Bytes(9); len(b) != 9 || !bytes.Equal(b, again.Bytes(9)) || bytes.Equal(b, d.Bytes(9)) {
			t.Errorf("bytes %v", b)
		}
		again.Bytes(9)
	}
	if counts[1] == 0 || counts[api.MaxApplets] == 0 || len(counts) != api.MaxApplets || imports < 40 {
		t.Errorf("counts %v, %d imports", counts, imports)
	}
}
