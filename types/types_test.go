package types

import (
	"fmt"
	"math"
	"slices"
	"strings"
	"testing"

	"netwright/api"
)

func TestP4_1Valid(t *testing.T) {
	for _, k := range everyKind() {
		if !Valid(k.t) {
			t.Errorf("%v is valid", k.t)
		}
		if empty := emptied(k.t); !Valid(empty) {
			t.Errorf("%v with empty slices is valid", k.t)
		}
	}
	for n := 1; n <= 64; n++ {
		if !Valid(vecType(n)) || !Valid(arrayType(n, intType())) {
			t.Errorf("a vector or array of %d is not valid", n)
		}
	}
	for n := 1; n <= 100; n++ {
		if !Valid(enumType(strings.Repeat("p", n), "a")) {
			t.Errorf("a Name of %d bytes is not valid", n)
		}
	}
	for _, bad := range noTypes() {
		if Valid(bad) {
			t.Errorf("%s is not valid", brief(bad))
		}
	}
}

// emptied returns a type with empty slices instead of nil ones.
func emptied(t api.Type) api.Type {
	t = copiedType(t)
	t.Names = append([]string{}, t.Names...)
	t.Elem = append([]api.Type{}, t.Elem...)
	return t
}

// Of each byte it is checked whether it can be in the Name of an enumeration, and in a name of it.
func TestP4_1Bytes(t *testing.T) {
	letters := "abcdefghijklmnopqrstuvwxyzABCDEFGHIJKLMNOPQRSTUVWXYZ"
	for c := range 256 {
		s := string([]byte{byte(c)})
		inName := strings.Contains(letters+"0123456789_", s)
		for _, full := range []string{s, "a" + s, s + "a", strings.Repeat("a", 99) + s} {
			if Valid(enumType(full, "a")) != (inName || s == ".") {
				t.Errorf("the Name %q", full)
			}
		}
		if Valid(enumType("t", s)) != strings.Contains(letters, s) {
			t.Errorf("the name %q", s)
		}
		if Valid(enumType("t", "a", "q"+s, "q"+s+"0")) != inName {
			t.Errorf("the name %q", "q"+s)
		}
	}
}

func TestP4_1Same(t *testing.T) {
	all := everyKind()
	for i, a := range all {
		for j, b := range all {
			if Same(a.t, emptied(b.t)) != (i == j) {
				t.Errorf("Same(%v, %v) is not %t", a.t, b.t, i == j)
			}
		}
		for _, bad := range noTypes()[:60] {
			if Same(a.t, bad) || Same(bad, a.t) {
				t.Errorf("Same of %v and a type that is not valid", a.t)
			}
		}
	}
	for _, bad := range noTypes() {
		if Same(bad, bad) {
			t.Errorf("%s is not valid, and not the same as itself", brief(bad))
		}
	}
}

// Enumerations are the same only if their Name and their names in order are.
func TestP4_1SameEnums(t *testing.T) {
	all := []api.Type{
		enumType("p.t", "a", "b"), enumType("p.u", "a", "b"), enumType("p.T", "a", "b"), enumType("p.t.", "a", "b"),
		enumType("p.t", "b", "a"), enumType("p.t", "a"), enumType("p.t", "a", "b", "c"), enumType("p.t", "a", "B"),
	}
	for i, a := range all {
		for j, b := range all {
			b = copiedType(b)
			if Same(a, b) != (i == j) || Same(arrayType(3, a), arrayType(3, b)) != (i == j) {
				t.Errorf("Same(%v, %v) is not %t", a, b, i == j)
			}
		}
	}
}

func TestP4_1Has(t *testing.T) {
	for _, k := range everyKind() {
		for _, s := range k.samples {
			if !Has(k.t, s.v) || !Has(emptied(k.t), withEmpty(s.v)) {
				t.Errorf("%v has the type %s", s.v, k.name)
			}
		}
		for _, v := range noValues(k) {
			if Has(k.t, v) {
				t.Errorf("%.100v has not the type %s", v, k.name)
			}
		}
	}
	for _, bad := range noTypes() {
		for _, v := range []api.Value{{}, {Kind: bad.Kind}, {Kind: bad.Kind, Bits: row("0")}, {Kind: bad.Kind, Bits: row("0101")}, bitOf("0"), numberOf(api.TBool, 0), numberOf(api.TInt, 0), vecOf("0101"), numberOf(api.TEnum, 0), listOf(bitOf("0")), listOf(), {Kind: bad.Kind, Bits: slices.Repeat(row("1"), 65)}} {
			if Has(bad, v) {
				t.Errorf("no value has the type %s", brief(bad))
			}
		}
	}
}

// withEmpty returns a value with empty slices instead of nil ones.
func withEmpty(v api.Value) api.Value {
	v = copied(v)
	v.Bits = append([]api.Bit{}, v.Bits...)
	v.List = append([]api.Value{}, v.List...)
	return v
}

// Arrays that are elements of themselves are no types and values.
func TestP4_1Circles(t *testing.T) {
	circle := arrayType(1, bitType())
	circle.Elem[0] = circle
	row := listOf(bitOf("0"))
	row.List[0] = row
	if Valid(circle) || Same(circle, circle) || Has(circle, row) || Has(circle, listOf(bitOf("0"))) || Has(arrayType(1, bitType()), row) {
		t.Error("an array that is its own element is valid")
	}
}

// Of all values with few fields, just those are of a small type that are written out for it.
func TestP4_1HasEveryValue(t *testing.T) {
	rows := [][]api.Bit{nil, {}, row("0"), row("1"), row("x"), row("z"), {4}, {255}, row("00"), row("z1"), {0, 4}, row("000")}
	lists := [][]api.Value{nil, {}, {{}}, {bitOf("0")}, {bitOf("x")}, {vecOf("0")}, {numberOf(api.TBool, 1)}, {numberOf(api.TBool, 2)}, {bitOf("0"), bitOf("1")}, {listOf(bitOf("0"))}}
	numbers := []int{0, 1, 2, 3, -1, math.MaxInt32, math.MinInt32, math.MaxInt32 + 1, math.MinInt32 - 1}
	has := map[string]func(v api.Value) bool{
		"bit":             func(v api.Value) bool { return v.N == 0 && len(v.Bits) == 1 && v.Bits[0] < 4 && len(v.List) == 0 },
		"bool":            func(v api.Value) bool { return (v.N == 0 || v.N == 1) && len(v.Bits) == 0 && len(v.List) == 0 },
		"int":             func(v api.Value) bool { return int(int32(v.N)) == v.N && len(v.Bits) == 0 && len(v.List) == 0 },
		"vec(1)":          func(v api.Value) bool { return v.N == 0 && len(v.Bits) == 1 && v.Bits[0] < 4 && len(v.List) == 0 },
		"vec(2)":          func(v api.Value) bool { return v.N == 0 && len(v.Bits) == 2 && v.Bits[1] < 4 && len(v.List) == 0 },
		"p.t3":            func(v api.Value) bool { return v.N >= 0 && v.N < 3 && len(v.Bits) == 0 && len(v.List) == 0 },
		"array(1) of bit": func(v api.Value) bool { return isRowOf(v, bitOf("0")) || isRowOf(v, bitOf("x")) },
		"array(2) of bit": func(v api.Value) bool { return isRowOf(v, bitOf("0"), bitOf("1")) },
	}
	seen := 0
	for _, k := range everyKind() {
		want, ok := has[k.name]
		if !ok {
			continue
		}
		seen++
		for kind := api.TypeKind(-1); kind <= 8; kind++ {
			for _, n := range numbers {
				for _, bits := range rows {
					for _, list := range lists {
						v := api.Value{Kind: kind, N: n, Bits: bits, List: list}
						if Has(k.t, v) != (kind == k.t.Kind && want(v)) {
							t.Errorf("Has(%s, %v) is not %t", k.name, v, !Has(k.t, v))
						}
					}
				}
			}
		}
	}
	if seen != len(has) {
		t.Errorf("%d types were looked at", seen)
	}
}

func isRowOf(v api.Value, l ...api.Value) bool {
	return v.N == 0 && len(v.Bits) == 0 && sameValues(v.List, l)
}

func TestP4_2First(t *testing.T) {
	for _, k := range everyKind() {
		call := fmt.Sprintf("First(%s)", k.name)
		v := must[api.Value](t, call)(First(k.t))
		if s, err := Text(k.t, v); s != k.first || err != api.OK {
			t.Errorf("%s is %q, %d; want %q", call, s, err, k.first)
		}
	}
	wantValue(t, "First of a bit", bitOf("x"))(First(bitType()))
	wantValue(t, "First of bool", numberOf(api.TBool, 0))(First(boolType()))
	wantValue(t, "First of int", numberOf(api.TInt, 0))(First(intType()))
	wantValue(t, "First of vec(3)", vecOf("xxx"))(First(vecType(3)))
	wantValue(t, "First of an enumeration", numberOf(api.TEnum, 0))(First(enumType("t", "a", "b")))
	wantValue(t, "First of array(2) of vec(2)", listOf(vecOf("xx"), vecOf("xx")))(First(arrayType(2, vecType(2))))
	for _, bad := range noTypes() {
		wantNoValue(t, "First of "+brief(bad), api.ErrArg)(First(bad))
	}
}

func TestP4_3Equal(t *testing.T) {
	for _, k := range everyKind() {
		for i, a := range k.samples {
			for j, b := range k.samples {
				got, err := Equal(k.t, a.v, withEmpty(b.v))
				if want := a.text == b.text; got != want || err != api.OK {
					t.Errorf("Equal of the samples %d and %d of %s = %t, %d", i, j, k.name, got, err)
				}
			}
		}
	}
}

// Two values that differ in one scalar only, whichever, are not equal.
func TestP4_3EqualOneScalar(t *testing.T) {
	for _, k := range everyKind() {
		v := k.samples[0].v
		for place := range k.places {
			if place > 130 && place < k.places-5 {
				continue
			}
			scalars := copiedAll(k.samples[0].scalars)
			other := otherScalar(k, scalars[place])
			if sameValue(other, scalars[place]) {
				continue
			}
			scalars[place] = other
			w := must[api.Value](t, "Join")(Join(k.t, scalars))
			if got, err := Equal(k.t, v, w); got || err != api.OK {
				t.Errorf("Equal of two values of %s that differ at %d = %t, %d", k.name, place, got, err)
			}
		}
	}
}

// otherScalar returns a scalar of a type that is not the given one, if there is one.
func otherScalar(k kind, v api.Value) api.Value {
	v = copied(v)
	switch k.scalar.Kind {
	case api.TBit:
		v.Bits[0] = (v.Bits[0] + 1) % 4
	case api.TBool:
		v.N = 1 - v.N
	case api.TEnum:
		v.N = (v.N + 1) % len(k.scalar.Names)
	case api.TInt:
		v.N = -1 - v.N
	}
	return v
}

func TestP4_3EqualRefuses(t *testing.T) {
	refused := func(u api.Type, v, w api.Value) {
		t.Helper()
		if got, err := Equal(u, v, w); got || err != api.ErrArg {
			t.Errorf("Equal of %s = %t, %d", brief(u), got, err)
		}
	}
	for _, k := range smallKinds() {
		good := k.samples[0].v
		for _, bad := range noValues(k) {
			refused(k.t, bad, good)
			refused(k.t, good, bad)
			refused(k.t, bad, bad)
		}
	}
	for _, bad := range noTypes() {
		refused(bad, bitOf("0"), bitOf("0"))
		refused(bad, api.Value{Kind: bad.Kind}, api.Value{Kind: bad.Kind})
		refused(bad, api.Value{}, api.Value{})
	}
}

func TestP4_6At(t *testing.T) {
	for _, k := range everyKind() {
		for _, s := range k.samples {
			for i := range k.t.Len {
				call := fmt.Sprintf("At(%s, %s, %d)", k.name, s.text, i)
				if k.t.Kind == api.TVec {
					wantValue(t, call, s.scalars[i])(At(k.t, s.v, i))
				} else {
					wantValue(t, call, s.v.List[i])(At(k.t, s.v, i))
				}
			}
		}
	}
}

// noIndices are ints that are no index of n bits or elements.
func noIndices(n int) []int {
	return []int{-1, -2, -n, n, n + 1, 64 + n, 1 << 32, 1<<32 + n - 1, math.MaxInt, math.MinInt}
}

func TestP4_6AtRefuses(t *testing.T) {
	for _, k := range smallKinds() {
		good := k.samples[0].v
		for _, i := range append(noIndices(k.t.Len), 0, 1) {
			call := fmt.Sprintf("At(%s, %d)", k.name, i)
			switch {
			case k.t.Kind != api.TVec && k.t.Kind != api.TArray:
				wantNoValue(t, call, api.ErrType)(At(k.t, good, i))
			case i < 0 || i >= k.t.Len:
				wantNoValue(t, call, api.ErrRange)(At(k.t, good, i))
			}
			for _, bad := range noValues(k) {
				wantNoValue(t, call, api.ErrArg)(At(k.t, bad, i))
			}
		}
	}
	for _, bad := range noTypes() {
		for _, v := range []api.Value{{}, bitOf("0"), vecOf("0"), listOf(bitOf("0")), {Kind: bad.Kind}} {
			wantNoValue(t, "At of "+brief(bad), api.ErrArg)(At(bad, v, 0))
			wantNoValue(t, "At of "+brief(bad), api.ErrArg)(At(bad, v, -1))
		}
	}
}

// parts returns the type of what a vector or array has, and values of it.
func parts(k kind) (api.Type, []api.Value) {
	if k.t.Kind == api.TVec {
		return bitType(), []api.Value{bitOf("0"), bitOf("1"), bitOf("x"), bitOf("z")}
	}
	var all []api.Value
	for _, s := range k.samples {
		all = append(all, s.v.List[0], s.v.List[len(s.v.List)-1])
	}
	return k.t.Elem[0], all
}

func TestP4_6With(t *testing.T) {
	for _, k := range everyKind() {
		if k.t.Kind != api.TVec && k.t.Kind != api.TArray {
			continue
		}
		_, all := parts(k)
		for i := range k.t.Len {
			for n, w := range all {
				v := k.samples[n%len(k.samples)].v
				want := copied(v)
				if k.t.Kind == api.TVec {
					want.Bits[i] = w.Bits[0]
				} else {
					want.List[i] = w
				}
				wantValue(t, fmt.Sprintf("With(%s, %d)", k.name, i), want)(With(k.t, v, i, w))
			}
		}
	}
	wantValue(t, "With of a vector", vecOf("010z"))(With(vecType(4), vecOf("010x"), 3, bitOf("z")))
	wantValue(t, "With of a row", listOf(numberOf(api.TInt, 8), numberOf(api.TInt, -1)))(With(arrayType(2, intType()), listOf(numberOf(api.TInt, 3), numberOf(api.TInt, -1)), 0, numberOf(api.TInt, 8)))
}

func TestP4_6WithRefuses(t *testing.T) {
	for _, k := range smallKinds() {
		good := k.samples[0].v
		for _, bad := range noValues(k) {
			wantNoValue(t, "With of "+k.name, api.ErrArg)(With(k.t, bad, 0, bitOf("0")))
			wantNoValue(t, "With of "+k.name, api.ErrArg)(With(k.t, bad, -1, api.Value{}))
		}
		if k.t.Kind != api.TVec && k.t.Kind != api.TArray {
			for _, w := range []api.Value{{}, good, bitOf("0")} {
				wantNoValue(t, "With of "+k.name, api.ErrType)(With(k.t, good, 0, w))
				wantNoValue(t, "With of "+k.name, api.ErrType)(With(k.t, good, -1, w))
			}
			continue
		}
		part, all := parts(k)
		for _, i := range noIndices(k.t.Len) {
			wantNoValue(t, fmt.Sprintf("With(%s, %d)", k.name, i), api.ErrRange)(With(k.t, good, i, all[0]))
			wantNoValue(t, fmt.Sprintf("With(%s, %d)", k.name, i), api.ErrRange)(With(k.t, good, i, api.Value{}))
		}
		for _, w := range noValues(kind{t: part, samples: []sample{{v: all[0]}}}) {
			wantNoValue(t, fmt.Sprintf("With(%s) of another value", k.name), api.ErrArg)(With(k.t, good, 0, w))
			wantNoValue(t, fmt.Sprintf("With(%s) of another value", k.name), api.ErrArg)(With(k.t, good, k.t.Len-1, w))
		}
	}
	for _, bad := range noTypes() {
		for _, v := range []api.Value{{}, bitOf("0"), vecOf("0"), listOf(bitOf("0")), {Kind: bad.Kind}} {
			wantNoValue(t, "With of "+brief(bad), api.ErrArg)(With(bad, v, 0, bitOf("0")))
		}
	}
}
