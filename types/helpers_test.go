package types

import (
	"fmt"
	"math"
	"slices"
	"strings"
	"testing"

	"netwright/api"
)

// The tests have samples of their own: for each type some values, each with the string and the scalars that the chapter says, written out or put together from those of the elements, so that no function of the package checks itself.

// sample is a value of a type: as a string, as scalars, and as bits (letters, the lowest one first; - if it has ints).
type sample struct {
	v       api.Value
	text    string
	scalars []api.Value
	bits    string
}

// kind is a type with what is to be known of it.
type kind struct {
	t       api.Type
	name    string
	scalar  api.Type
	places  int
	width   int // 0 if it has ints
	first   string
	samples []sample
}

func bitType() api.Type { return api.Type{Kind: api.TBit} }

func boolType() api.Type { return api.Type{Kind: api.TBool} }

func intType() api.Type { return api.Type{Kind: api.TInt} }

func vecType(n int) api.Type { return api.Type{Kind: api.TVec, Len: n} }

func enumType(name string, names ...string) api.Type {
	return api.Type{Kind: api.TEnum, Name: name, Names: names}
}

func arrayType(n int, elem ...api.Type) api.Type {
	return api.Type{Kind: api.TArray, Len: n, Elem: elem}
}

// manyNames returns n different names.
func manyNames(n int) []string {
	var all []string
	for i := range n {
		all = append(all, fmt.Sprintf("n%d", i))
	}
	return all
}

// row returns bits of letters, the lowest one first.
func row(letters string) []api.Bit {
	var l []api.Bit
	for _, letter := range letters {
		l = append(l, api.Bit(strings.IndexRune("01xz", letter)))
	}
	return l
}

// reversed returns a string from its last letter to its first one.
func reversed(s string) string {
	l := []byte(s)
	slices.Reverse(l)
	return string(l)
}

func bitOf(letter string) api.Value { return api.Value{Kind: api.TBit, Bits: row(letter)} }

func numberOf(k api.TypeKind, n int) api.Value { return api.Value{Kind: k, N: n} }

// vecOf returns a vector of letters, the lowest one first.
func vecOf(letters string) api.Value { return api.Value{Kind: api.TVec, Bits: row(letters)} }

func listOf(l ...api.Value) api.Value { return api.Value{Kind: api.TArray, List: l} }

// scalarKinds are all types that are no arrays: vectors of 1 to 64, and enumerations at the ends of what they can be.
func scalarKinds() []kind {
	bits := kind{t: bitType(), name: "bit", scalar: bitType(), places: 1, width: 1, first: "'x'"}
	for _, letter := range []string{"0", "1", "x", "z"} {
		bits.samples = append(bits.samples, sample{bitOf(letter), "'" + letter + "'", []api.Value{bitOf(letter)}, letter})
	}
	bools := kind{t: boolType(), name: "bool", scalar: boolType(), places: 1, width: 1, first: "false"}
	for n, text := range []string{"false", "true"} {
		bools.samples = append(bools.samples, numberSample(api.TBool, n, text, fmt.Sprint(n)))
	}
	ints := kind{t: intType(), name: "int", scalar: intType(), places: 1, first: "0"}
	for _, n := range []int{0, 1, -1, 3, 9, 10, -10, 255, -100, 1000000, 2147483646, 2147483647, -2147483647, -2147483648} {
		ints.samples = append(ints.samples, numberSample(api.TInt, n, fmt.Sprint(n), "-"))
	}
	all := []kind{bits, bools, ints}
	for _, n := range []int{1, 2, 3, 4, 7, 8, 31, 32, 63, 64} {
		all = append(all, vecKind(n))
	}
	widths := []int{1, 1, 2, 2, 3, 3, 3, 3, 4, 4, 4, 4, 4, 4, 4, 4}
	for i, width := range widths {
		all = append(all, enumKind(fmt.Sprintf("p.t%d", i+1), manyNames(i+1), width))
	}
	return append(all,
		enumKind("t", []string{"a", "b", "c"}, 2),
		enumKind(".", []string{"A", "a", "false", "true", "bit"}, 3),
		enumKind("_", []string{strings.Repeat("q", 40), "int", "Mod", "ende"}, 2),
		enumKind("7.a", []string{strings.Repeat("Z", 39) + "0"}, 1),
		enumKind("abcdefghijklmnopqrstuvwxyz.ABCDEFGHIJKLMNOPQRSTUVWXYZ_0123456789", []string{"b", "x", "z", "b1"}, 2),
		enumKind(strings.Repeat("a.b_", 25), []string{"x_0", "x_1"}, 1))
}

func numberSample(k api.TypeKind, n int, text, bits string) sample {
	return sample{numberOf(k, n), text, []api.Value{numberOf(k, n)}, bits}
}

func vecKind(n int) kind {
	k := kind{t: vecType(n), name: fmt.Sprintf("vec(%d)", n), scalar: bitType(), places: n, width: n, first: `b"` + strings.Repeat("x", n) + `"`}
	rows := []string{"0", "1", "x", "z", "01", "10xz", "0102x31zz1", "1000", "zzzzzzz0"}
	for _, letters := range rows {
		letters = strings.NewReplacer("2", "x", "3", "z").Replace(strings.Repeat(letters, 64)[:n])
		s := sample{v: vecOf(letters), text: `b"` + reversed(letters) + `"`, bits: letters}
		for _, letter := range letters {
			s.scalars = append(s.scalars, bitOf(string(letter)))
		}
		if !slices.ContainsFunc(k.samples, func(other sample) bool { return other.text == s.text }) {
			k.samples = append(k.samples, s)
		}
	}
	return k
}

func enumKind(name string, names []string, width int) kind {
	k := kind{t: enumType(name, names...), name: name, scalar: enumType(name, names...), places: 1, width: width, first: names[0]}
	for n, text := range names {
		k.samples = append(k.samples, numberSample(api.TEnum, n, text, reversed(fmt.Sprintf("%0*b", width, n))))
	}
	return k
}

// arrayKind returns an array of n elements, with values in which the samples of the elements are shifted.
func arrayKind(n int, elem kind) kind {
	k := kind{t: arrayType(n, elem.t), name: fmt.Sprintf("array(%d) of %s", n, elem.name), scalar: elem.scalar, places: n * elem.places, width: n * elem.width}
	k.first = "[" + strings.Join(slices.Repeat([]string{elem.first}, n), ",") + "]"
	for start := range min(3, len(elem.samples)) {
		s := sample{v: api.Value{Kind: api.TArray}}
		var texts []string
		for i := range n {
			part := elem.samples[(start+i)%len(elem.samples)]
			s.v.List = append(s.v.List, copied(part.v))
			s.scalars = append(s.scalars, copiedAll(part.scalars)...)
			s.bits += part.bits
			texts = append(texts, part.text)
		}
		s.text = "[" + strings.Join(texts, ",") + "]"
		k.samples = append(k.samples, s)
	}
	return k
}

// everyKind returns types of each kind, arrays with each kind of element among them.
func everyKind() []kind {
	all := scalarKinds()
	for _, elem := range scalarKinds() {
		for _, n := range []int{1, 2, 3, 64} {
			all = append(all, arrayKind(n, elem))
		}
	}
	return all
}

// smallKinds are types of each kind whose tests may take long for each.
func smallKinds() []kind {
	var all []kind
	scalars := scalarKinds()
	for _, k := range scalars {
		if k.places <= 4 || k.places == 64 {
			all = append(all, k)
		}
	}
	for _, elem := range all {
		all = append(all, arrayKind(1, elem), arrayKind(2, elem))
	}
	return append(all, arrayKind(64, vecKind(2)), arrayKind(64, scalars[2]))
}

// noTypes returns types that are not valid, each for one reason.
func noTypes() []api.Type {
	var all []api.Type
	for _, k := range []api.TypeKind{0, 7, 8, -1, -5, 100, math.MaxInt, math.MinInt} {
		all = append(all, api.Type{Kind: k}, api.Type{Kind: k, Len: 4}, api.Type{Kind: k, Name: "t", Names: []string{"a"}}, api.Type{Kind: k, Len: 1, Elem: []api.Type{bitType()}})
	}
	for _, t := range []api.Type{bitType(), boolType(), intType(), vecType(4)} {
		all = append(all, unused(t, "Name"), unused(t, "Names"), unused(t, "Elem"))
	}
	for _, t := range []api.Type{bitType(), boolType(), intType(), enumType("t", "a", "b")} {
		for _, n := range []int{1, -1, 4, 64, math.MinInt} {
			t.Len = n
			all = append(all, t)
		}
	}
	for _, n := range []int{0, -1, -4, -64, 65, 66, 1000, 1 << 32, 1<<32 + 1, math.MaxInt, math.MinInt} {
		all = append(all, vecType(n))
		for _, elem := range []api.Type{bitType(), boolType(), intType(), vecType(1), enumType("t", "a")} {
			all = append(all, arrayType(n, elem))
		}
	}
	all = append(all, unused(enumType("t", "a", "b"), "Elem"))
	for _, elem := range []api.Type{bitType(), vecType(1), enumType("t", "a")} {
		all = append(all, unused(arrayType(2, elem), "Name"), unused(arrayType(2, elem), "Names"))
	}
	return append(append(all, noEnums()...), noArrays()...)
}

// unused returns a type in which a field is not zero that its kind does not use.
func unused(t api.Type, field string) api.Type {
	switch field {
	case "Name":
		t.Name = "t"
	case "Names":
		t.Names = []string{"a"}
	case "Elem":
		t.Elem = []api.Type{bitType()}
	}
	return t
}

// noEnums returns enumerations that are not valid because of their names.
func noEnums() []api.Type {
	all := []api.Type{enumType("t"), {Kind: api.TEnum}, {Kind: api.TEnum, Name: "t", Names: []string{}}, enumType("t", manyNames(17)...), enumType("t", manyNames(1000)...)}
	for _, name := range []string{"", strings.Repeat("a", 101), strings.Repeat("a", 200000), "a b", " a", "a ", "a-b", "a(0)", "a,b", "[", "a\n", "\x00", "\u00e4", "a\xff", "/", "@", "`", "{", ":", "p..t\t"} {
		all = append(all, enumType(name, "a", "b"))
	}
	for _, name := range noNames() {
		all = append(all, enumType("t", name), enumType("t", "a", name), enumType("t", name, "b"))
	}
	all = append(all, enumType("t", "a", "a"), enumType("t", "a", "b", "a"), enumType("t", "b", "a", "a"))
	for _, i := range []int{0, 7, 14} {
		names := manyNames(16)
		names[15] = names[i]
		all = append(all, enumType("t", names...))
	}
	return all
}

// noNames returns strings that are no names: other bytes, too many of them, and the reserved words.
func noNames() []string {
	all := []string{"", "_", "_a", "0", "9a", "a b", " a", "a ", "a\n", "a-", "a.b", "p.t", "a(0)", "a,b", "[a]", "\u00e4", "a\u00e4", "a\x00", "'0'", "b\"1\"", "<=", strings.Repeat("a", 41), strings.Repeat("a", 100000)}
	return append(all, strings.Fields("package is end module generic port begin in out vec array of const type signal var function return use process all inst for to generate if else transport after assert report then elsif case when others loop while wait on until null and or xor nand nor xnor not mod shl shr downto")...)
}

// noArrays returns arrays that are not valid because of their elements.
func noArrays() []api.Type {
	all := []api.Type{arrayType(2), {Kind: api.TArray, Len: 2, Elem: []api.Type{}}, arrayType(2, bitType(), bitType()), arrayType(1, intType(), intType(), intType())}
	elements := []api.Type{{}, {Kind: 7}, {Kind: -1}, vecType(0), vecType(65), vecType(-1), unused(bitType(), "Name"), unused(vecType(1), "Elem"), unused(intType(), "Names"), {Kind: api.TBool, Len: 1}}
	for _, elem := range append(elements, noEnums()...) {
		all = append(all, arrayType(1, elem), arrayType(64, elem))
	}
	for _, elem := range []api.Type{bitType(), boolType(), intType(), vecType(4), enumType("t", "a")} {
		all = append(all, arrayType(1, arrayType(1, elem)), arrayType(2, arrayType(64, elem)), arrayType(1, arrayType(1, arrayType(1, elem))))
	}
	return all
}

// noValues returns values that a type does not have.
func noValues(k kind) []api.Value {
	all := []api.Value{{}}
	one := k.samples[0].v
	for other := api.TypeKind(-1); other <= 8; other++ {
		if other != k.t.Kind {
			v := copied(one)
			v.Kind = other
			all = append(all, v)
		}
	}
	for _, v := range []api.Value{bitOf("0"), bitOf("z"), numberOf(api.TBool, 0), numberOf(api.TBool, 1), numberOf(api.TInt, 0), numberOf(api.TInt, -1), vecOf("0"), vecOf("01xz"), numberOf(api.TEnum, 0), listOf(bitOf("0")), listOf(numberOf(api.TInt, 0), numberOf(api.TInt, 3)), listOf(vecOf("01"), vecOf("10"))} {
		if v.Kind != k.t.Kind {
			all = append(all, v)
		}
	}
	for _, s := range k.samples {
		switch k.t.Kind {
		case api.TBit, api.TVec:
			all = append(all, noRows(s.v)...)
		case api.TBool, api.TInt, api.TEnum:
			all = append(all, changed(s.v, func(v *api.Value) { v.Bits = row("0") }), changed(s.v, func(v *api.Value) { v.List = []api.Value{bitOf("0")} }), changed(s.v, func(v *api.Value) { v.List = []api.Value{{}} }))
		case api.TArray:
			all = append(all, noLists(s.v)...)
		}
	}
	return append(all, noNumbers(k.t)...)
}

// changed returns a copy of a value with a change.
func changed(v api.Value, change func(v *api.Value)) api.Value {
	v = copied(v)
	change(&v)
	return v
}

// noRows returns values with bits in which something is wrong.
func noRows(v api.Value) []api.Value {
	all := []api.Value{
		changed(v, func(v *api.Value) { v.N = 1 }),
		changed(v, func(v *api.Value) { v.N = -1 }),
		changed(v, func(v *api.Value) { v.List = []api.Value{{}} }),
		changed(v, func(v *api.Value) { v.List = []api.Value{bitOf("0")} }),
		changed(v, func(v *api.Value) { v.Bits = nil }),
		changed(v, func(v *api.Value) { v.Bits = []api.Bit{} }),
		changed(v, func(v *api.Value) { v.Bits = v.Bits[1:] }),
		changed(v, func(v *api.Value) { v.Bits = append(v.Bits, api.B0) }),
		changed(v, func(v *api.Value) { v.Bits = append(v.Bits, slices.Repeat(row("x"), 64)...) }),
	}
	for _, bad := range []api.Bit{4, 5, 128, 255} {
		all = append(all, changed(v, func(v *api.Value) { v.Bits[0] = bad }), changed(v, func(v *api.Value) { v.Bits[len(v.Bits)-1] = bad }))
	}
	return all
}

// noNumbers returns values of the kind of a type with a number that is none of it.
func noNumbers(t api.Type) []api.Value {
	var all []api.Value
	numbers := []int{-1, 2, 3, -2, 1 << 32, math.MaxInt, math.MinInt}
	switch t.Kind {
	case api.TInt:
		numbers = []int{1 << 31, 1<<31 + 1, -1<<31 - 1, 1 << 32, -1 << 32, math.MaxInt, math.MinInt}
	case api.TEnum:
		numbers = []int{-1, -16, len(t.Names), len(t.Names) + 1, 100, math.MaxInt, math.MinInt}
	case api.TBool:
	default:
		return nil
	}
	for _, n := range numbers {
		all = append(all, numberOf(t.Kind, n))
	}
	return all
}

// noLists returns arrays in which something is wrong.
func noLists(v api.Value) []api.Value {
	all := []api.Value{
		changed(v, func(v *api.Value) { v.N = 1 }),
		changed(v, func(v *api.Value) { v.N = -1 }),
		changed(v, func(v *api.Value) { v.Bits = row("0") }),
		changed(v, func(v *api.Value) { v.List = nil }),
		changed(v, func(v *api.Value) { v.List = []api.Value{} }),
		changed(v, func(v *api.Value) { v.List = v.List[1:] }),
		changed(v, func(v *api.Value) { v.List = append(v.List, v.List[0]) }),
		changed(v, func(v *api.Value) { v.List = append(v.List, v.List...) }),
	}
	last := len(v.List) - 1
	for _, i := range []int{0, last} {
		for _, element := range []api.Value{{}, numberOf(0, 1), listOf(copied(v.List[i])), changed(v.List[i], func(v *api.Value) { v.Kind++ }), changed(v.List[i], func(v *api.Value) { v.N += 1 << 40 }), changed(v.List[i], func(v *api.Value) { v.Bits = append(v.Bits, api.B1) }), changed(v.List[i], func(v *api.Value) { v.List = []api.Value{{}} })} {
			all = append(all, changed(v, func(v *api.Value) { v.List[i] = element }))
		}
	}
	return all
}

// copied returns a value with memory of its own.
func copied(v api.Value) api.Value {
	v.Bits = slices.Clone(v.Bits)
	v.List = copiedAll(v.List)
	return v
}

func copiedAll(l []api.Value) []api.Value {
	l = slices.Clone(l)
	for i := range l {
		l[i] = copied(l[i])
	}
	return l
}

// copiedType returns a type with memory of its own.
func copiedType(t api.Type) api.Type {
	t.Names = slices.Clone(t.Names)
	t.Elem = slices.Clone(t.Elem)
	for i := range t.Elem {
		t.Elem[i] = copiedType(t.Elem[i])
	}
	return t
}

// sameValue reports whether two values are the same, whether a slice is nil or empty.
func sameValue(v, w api.Value) bool {
	return v.Kind == w.Kind && v.N == w.N && slices.Equal(v.Bits, w.Bits) && sameValues(v.List, w.List)
}

func sameValues(l, m []api.Value) bool { return slices.EqualFunc(l, m, sameValue) }

// sameType reports whether two types are the same in all fields, whether a slice is nil or empty.
func sameType(t, u api.Type) bool {
	return t.Kind == u.Kind && t.Len == u.Len && t.Name == u.Name && slices.Equal(t.Names, u.Names) && slices.EqualFunc(t.Elem, u.Elem, sameType)
}

// brief returns what is to be said of a type that is not valid.
func brief(t api.Type) string {
	s := fmt.Sprintf("kind %d, %d, %.20q, %d names, %d elements", t.Kind, t.Len, t.Name, len(t.Names), len(t.Elem))
	for _, name := range t.Names[:min(3, len(t.Names))] {
		s += fmt.Sprintf(" %.20q", name)
	}
	for _, elem := range t.Elem[:min(1, len(t.Elem))] {
		s += fmt.Sprintf(" of kind %d, %d", elem.Kind, elem.Len)
	}
	return s
}

// wantValue checks the result of a call that gives a value.
func wantValue(t *testing.T, call string, want api.Value) func(api.Value, api.Errno) {
	return func(got api.Value, err api.Errno) {
		t.Helper()
		if !sameValue(got, want) || err != api.OK {
			t.Errorf("%.200s = %.200v, %d; want %.200v", call, got, err, want)
		}
	}
}

// wantNoValue checks the result of a call that is refused.
func wantNoValue(t *testing.T, call string, want api.Errno) func(api.Value, api.Errno) {
	return func(got api.Value, err api.Errno) {
		t.Helper()
		if !sameValue(got, api.Value{}) || err != want {
			t.Errorf("%.200s = %.200v, %d; want error %d", call, got, err, want)
		}
	}
}

// must returns the result of a call that is to succeed.
func must[T any](t *testing.T, call string) func(T, api.Errno) T {
	return func(got T, err api.Errno) T {
		t.Helper()
		if err != api.OK {
			t.Fatalf("%.200s: error %d", call, err)
		}
		return got
	}
}
