package parser

import (
	"reflect"
	"slices"
	"testing"

	"netwright/api"
)

// Each field of each sample is changed: the units are the same just if nothing but a position has changed.
func TestP6_3EveryField(t *testing.T) {
	for _, l := range samples(t) {
		old := copied(l)
		l = copied(l)
		change(reflect.ValueOf(&l).Elem(), "", func(field string) {
			want := alike(l, old)
			if Same(l, old) != want || Same(old, l) != want {
				t.Errorf("%s with another %s: Same is not %v", textOf(old), field, want)
			}
		})
	}
}

func TestP6_3Same(t *testing.T) {
	if !Same(nil, nil) || !Same(nil, []api.Unit{}) || !Same([]api.Unit{}, nil) {
		t.Error("no units are the same")
	}
	for seed := range uint64(300) {
		l := newMaker(seed).units()
		_, there := placed(t, l, newMaker(seed).gap)
		if !Same(l, l) || !Same(l, there) || !Same(there, l) || !Same(emptied(there), l) || !Same(l, emptied(l)) {
			t.Errorf("%s is not the same", textOf(l))
		}
		other := newMaker(seed + 1).units()
		if want := alike(l, other); Same(l, other) != want || Same(other, l) != want {
			t.Errorf("Same of %s and %s is not %v", textOf(l), textOf(other), want)
		}
		more := slices.Concat(l, []api.Unit{pack()})
		if Same(l, more) || Same(more, l) || Same(more, more[1:]) {
			t.Errorf("%s and one unit more are the same", textOf(l))
		}
	}
}

// Units that are not valid are compared too.
func TestP6_3NotValid(t *testing.T) {
	odd := api.Unit{Op: 77, Name: "end", Body: []api.Conc{{Op: -1, Last: api.Expr{Op: api.EValue, Val: api.Value{N: 3}, Type: api.Type{Len: 2}}, Body: []api.Stmt{{N: 4}}}}}
	other := copied(odd)
	if !Same([]api.Unit{odd}, []api.Unit{other}) {
		t.Error("copies are the same")
	}
	other.Body[0].Last.Val.N = 4
	if Same([]api.Unit{odd}, []api.Unit{other}) || Same([]api.Unit{odd, {}}, []api.Unit{odd}) {
		t.Error("other units are not the same")
	}
}

func TestP6_4Find(t *testing.T) {
	l := parsed(t, "package b is end ; module a port ( ) is begin end ; package a is end ; module B port ( ) is begin end ; module in_ port ( ) is begin end ;")
	for name, want := range map[string]int{"b": 0, "a": 1, "B": 3, "in_": 4} {
		if i, err := Find(l, name); i != want || err != api.OK {
			t.Errorf("Find(%s) = %d, %d; want %d", name, i, err, want)
		}
	}
	for _, name := range []string{"", "A", "c", "a ", "in", "end", "l", "ab"} {
		if i, err := Find(l, name); i != 0 || err != api.ErrNone {
			t.Errorf("Find(%q) = %d, %d", name, i, err)
		}
		if i, err := Find(nil, name); i != 0 || err != api.ErrNone {
			t.Errorf("Find(%q) of no units = %d, %d", name, i, err)
		}
	}
	if i, err := Find(l[1:], "a"); i != 0 || err != api.OK {
		t.Errorf("Find of the first unit = %d, %d", i, err)
	}
	if i, err := Find(l[2:], "a"); i != 0 || err != api.OK {
		t.Errorf("Find of a package = %d, %d", i, err)
	}
	if i, err := Find(l[2:], "b"); i != 0 || err != api.ErrNone {
		t.Errorf("Find of a unit that is not there = %d, %d", i, err)
	}
}
