package types

import (
	"slices"
	"strings"
	"testing"

	"netwright/api"
)

func TestP4_9Texts(t *testing.T) {
	for _, k := range everyKind() {
		for _, s := range k.samples {
			text := must[string](t, "Text")(Text(k.t, s.v))
			wantValue(t, "Parse of Text of "+s.text, s.v)(Parse(k.t, text))
		}
	}
}

func TestP4_9Bits(t *testing.T) {
	for _, k := range everyKind() {
		for _, s := range k.samples {
			if l, err := Bits(k.t, s.v); err == api.OK {
				wantValue(t, "Of of Bits of "+s.text, s.v)(Of(k.t, l))
			} else if k.width > 0 {
				t.Errorf("Bits of %s: error %d", s.text, err)
			}
		}
	}
}

// Whatever bits Of takes, they are the Bits of what it gives.
func TestP4_9BitsBack(t *testing.T) {
	taken := 0
	for _, k := range smallKinds() {
		if k.width == 0 || k.width > 5 {
			continue
		}
		everyText(k.width, strings.Split("01xz", ""), func(letters string) {
			v, err := Of(k.t, row(letters))
			if err != api.OK {
				return
			}
			taken++
			if l := must[[]api.Bit](t, "Bits")(Bits(k.t, v)); !slices.Equal(l, row(letters)) {
				t.Errorf("Bits of Of(%s, %s) = %v", k.name, letters, l)
			}
		})
	}
	if taken < 400 {
		t.Errorf("only %d rows of bits were taken", taken)
	}
}

func TestP4_9Scalars(t *testing.T) {
	for _, k := range everyKind() {
		for _, s := range k.samples {
			l := must[[]api.Value](t, "Split")(Split(k.t, s.v))
			wantValue(t, "Join of Split of "+s.text, s.v)(Join(k.t, l))
			v := must[api.Value](t, "Join")(Join(k.t, s.scalars))
			if back := must[[]api.Value](t, "Split")(Split(k.t, v)); !sameValues(back, s.scalars) {
				t.Errorf("Split of Join of %v = %v", s.scalars, back)
			}
			if len(l) != must[int](t, "Places")(Places(k.t)) {
				t.Errorf("%s has %d scalars", s.text, len(l))
			}
			for place, scalar := range l {
				if !Has(must[api.Type](t, "Scalar")(Scalar(k.t, place)), scalar) {
					t.Errorf("%v at %d of %s has not the type of the place", scalar, place, s.text)
				}
			}
		}
	}
}

func TestP4_10First(t *testing.T) {
	for _, k := range everyKind() {
		if v := must[api.Value](t, "First")(First(k.t)); !Has(k.t, v) {
			t.Errorf("First of %s has not the type: %v", k.name, v)
		}
	}
}

func TestP4_11Elements(t *testing.T) {
	for _, k := range everyKind() {
		if k.t.Kind != api.TVec && k.t.Kind != api.TArray {
			continue
		}
		_, all := parts(k)
		for n, s := range k.samples {
			w := all[len(all)-1-n%len(all)]
			for i := range k.t.Len {
				put := must[api.Value](t, "With")(With(k.t, s.v, i, w))
				for other := range k.t.Len {
					want := w
					if other != i {
						want = must[api.Value](t, "At")(At(k.t, s.v, other))
					}
					wantValue(t, "At of With of "+s.text, want)(At(k.t, put, other))
				}
			}
		}
	}
}

func TestP4_12Names(t *testing.T) {
	of := map[string]api.Type{}
	for _, k := range everyKind() {
		if k.scalar.Kind == api.TEnum {
			continue
		}
		name := must[string](t, "Name")(Name(k.t))
		if before, ok := of[name]; ok && !Same(before, k.t) {
			t.Errorf("%v and %v have the same Name", before, k.t)
		}
		of[name] = k.t
	}
	for n := 1; n <= 64; n++ {
		for _, u := range []api.Type{vecType(n), arrayType(n, bitType()), arrayType(n, vecType(65-n)), arrayType(64, vecType(n)), arrayType(n, intType()), arrayType(n, boolType())} {
			name := must[string](t, "Name")(Name(u))
			if before, ok := of[name]; ok && !Same(before, u) {
				t.Errorf("%v and %v have the same Name", before, u)
			}
			of[name] = u
		}
	}
}

// memory is that of arguments and results: each slice up to its capacity.
type memory struct {
	bits  [][]api.Bit
	lists [][]api.Value
	names [][]string
	elems [][]api.Type
}

func (m *memory) addValue(v api.Value) {
	m.addBits(v.Bits)
	m.addList(v.List)
}

func (m *memory) addBits(l []api.Bit) { m.bits = append(m.bits, l[:cap(l)]) }

func (m *memory) addList(l []api.Value) {
	m.lists = append(m.lists, l[:cap(l)])
	for _, v := range l {
		m.addValue(v)
	}
}

func (m *memory) addType(u api.Type) {
	m.names = append(m.names, u.Names[:cap(u.Names)])
	m.elems = append(m.elems, u.Elem[:cap(u.Elem)])
	for _, elem := range u.Elem {
		m.addType(elem)
	}
}

// isShared reports whether two of the slices share memory.
func (m *memory) isShared() bool {
	return sharing(m.bits) || sharing(m.lists) || sharing(m.names) || sharing(m.elems)
}

// sharing reports whether an element of a slice is one of another slice.
func sharing[T any](slices [][]T) bool {
	seen := map[*T]bool{}
	for _, l := range slices {
		for i := range l {
			if seen[&l[i]] {
				return true
			}
			seen[&l[i]] = true
		}
	}
	return false
}

// roomy returns a value with memory of its own, and with room behind its slices.
func roomy(v api.Value) api.Value {
	v.Bits = append(make([]api.Bit, 0, 70), v.Bits...)
	list := make([]api.Value, 0, 70)
	for _, element := range v.List {
		list = append(list, roomy(element))
	}
	v.List = list
	return v
}

// No function changes what it is given, and no result shares memory with it, or with another part of the result.
func TestRule3Memory(t *testing.T) {
	for _, k := range everyKind() {
		for _, s := range k.samples[:1] {
			v, w, u := roomy(s.v), roomy(k.samples[len(k.samples)-1].v), copiedType(k.t)
			scalars, bits := copiedAll(s.scalars), row(s.bits)
			for name, call := range everyCall(k, v, w, u, scalars, bits) {
				m := &memory{}
				m.addType(u)
				m.addList([]api.Value{v, w})
				m.addList(scalars)
				m.addBits(bits)
				call(m)
				if m.isShared() {
					t.Errorf("%s of %s shares memory", name, k.name)
				}
			}
			if !sameValue(v, s.v) || !sameValue(w, k.samples[len(k.samples)-1].v) || !sameType(u, k.t) || !sameValues(scalars, s.scalars) || !slices.Equal(bits, row(s.bits)) {
				t.Errorf("what was given is changed: of %s %v", k.name, v)
			}
		}
	}
}

// everyCall returns calls of all functions that give values, types or bits.
func everyCall(k kind, v, w api.Value, u api.Type, scalars []api.Value, bits []api.Bit) map[string]func(m *memory) {
	value := func(m *memory) func(api.Value, api.Errno) {
		return func(v api.Value, _ api.Errno) { m.addValue(v) }
	}
	calls := map[string]func(m *memory){
		"First": func(m *memory) { value(m)(First(u)) },
		"Parse": func(m *memory) { value(m)(Parse(u, k.samples[0].text)) },
		"At":    func(m *memory) { value(m)(At(u, v, 0)) },
		"Of":    func(m *memory) { value(m)(Of(u, bits)) },
		"Join":  func(m *memory) { value(m)(Join(u, scalars)) },
		"Bits":  func(m *memory) { l, _ := Bits(u, v); m.addBits(l) },
		"Split": func(m *memory) { l, _ := Split(u, v); m.addList(l) },
		"Scalar": func(m *memory) {
			scalar, _ := Scalar(u, 0)
			m.addType(scalar)
		},
		"others": func(*memory) {
			Valid(u)
			Same(u, u)
			Has(u, v)
			Equal(u, v, w)
			Text(u, v)
			Name(u)
			Width(u)
			Places(u)
		},
	}
	if len(w.List) > 0 {
		calls["With an element"] = func(m *memory) { value(m)(With(u, v, k.t.Len-1, w.List[0])) }
	}
	if k.t.Kind == api.TVec {
		calls["With a bit"] = func(m *memory) { value(m)(With(u, v, k.t.Len-1, scalars[0])) }
	}
	return calls
}
