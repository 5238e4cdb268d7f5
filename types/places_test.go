package types

import (
	"fmt"
	"slices"
	"strings"
	"testing"

	"netwright/api"
)

func TestP4_7Width(t *testing.T) {
	for _, k := range everyKind() {
		want := api.OK
		if k.width == 0 {
			want = api.ErrType
		}
		if got, err := Width(k.t); got != k.width || err != want {
			t.Errorf("Width(%s) = %d, %d; want %d, %d", k.name, got, err, k.width, want)
		}
	}
	for n, want := range map[int]int{1: 1, 2: 1, 3: 2, 4: 2, 5: 3, 8: 3, 9: 4, 16: 4} {
		if got, err := Width(enumType("t", manyNames(n)...)); got != want || err != api.OK {
			t.Errorf("Width of %d names = %d, %d; want %d", n, got, err, want)
		}
		if got, err := Width(arrayType(5, enumType("t", manyNames(n)...))); got != 5*want || err != api.OK {
			t.Errorf("Width of five of %d names = %d, %d; want %d", n, got, err, 5*want)
		}
	}
	if got, err := Width(arrayType(64, vecType(64))); got != 4096 || err != api.OK {
		t.Errorf("Width of 64 of 64 bits = %d, %d", got, err)
	}
	for _, bad := range noTypes() {
		if got, err := Width(bad); got != 0 || err != api.ErrArg {
			t.Errorf("Width of %s = %d, %d", brief(bad), got, err)
		}
	}
}

func TestP4_7Bits(t *testing.T) {
	for _, k := range everyKind() {
		for _, s := range k.samples {
			got, err := Bits(k.t, s.v)
			if k.width == 0 {
				if len(got) != 0 || err != api.ErrType {
					t.Errorf("Bits(%s, %s) = %v, %d", k.name, s.text, got, err)
				}
			} else if !slices.Equal(got, row(s.bits)) || err != api.OK {
				t.Errorf("Bits(%s, %s) = %v, %d; want %s", k.name, s.text, got, err, s.bits)
			}
		}
		for _, bad := range noValues(k) {
			if got, err := Bits(k.t, bad); len(got) != 0 || err != api.ErrArg {
				t.Errorf("Bits of no value of %s = %v, %d", k.name, got, err)
			}
		}
	}
	for _, x := range []struct {
		t    api.Type
		v    api.Value
		want string
	}{
		{enumType("t", "a", "b", "c"), numberOf(api.TEnum, 2), "01"},
		{enumType("t", "a"), numberOf(api.TEnum, 0), "0"},
		{enumType("t", manyNames(16)...), numberOf(api.TEnum, 14), "0111"},
		{arrayType(2, enumType("t", manyNames(5)...)), listOf(numberOf(api.TEnum, 1), numberOf(api.TEnum, 4)), "100001"},
		{boolType(), numberOf(api.TBool, 1), "1"},
		{arrayType(2, vecType(3)), listOf(vecOf("01x"), vecOf("z10")), "01xz10"},
	} {
		if got, err := Bits(x.t, x.v); !slices.Equal(got, row(x.want)) || err != api.OK {
			t.Errorf("Bits = %v, %d; want %s", got, err, x.want)
		}
	}
	for _, bad := range noTypes() {
		if got, err := Bits(bad, api.Value{Kind: bad.Kind}); len(got) != 0 || err != api.ErrArg {
			t.Errorf("Bits of %s = %v, %d", brief(bad), got, err)
		}
	}
}

func TestP4_7Of(t *testing.T) {
	for _, k := range everyKind() {
		for _, s := range k.samples {
			call := fmt.Sprintf("Of(%s, %s)", k.name, s.bits)
			if k.width > 0 {
				wantValue(t, call, s.v)(Of(k.t, row(s.bits)))
			} else {
				wantNoValue(t, call, api.ErrType)(Of(k.t, slices.Repeat(row("0"), k.t.Len)))
				wantNoValue(t, call, api.ErrType)(Of(k.t, nil))
				wantNoValue(t, call, api.ErrType)(Of(k.t, []api.Bit{9}))
			}
		}
	}
	for _, bad := range noTypes() {
		for _, n := range []int{0, 1, 4, 64, 65} {
			wantNoValue(t, "Of "+brief(bad), api.ErrArg)(Of(bad, slices.Repeat(row("0"), n)))
		}
	}
}

// Another number of bits, and numbers that are no bits, wherever they stand, are no value's.
func TestP4_7OfRefuses(t *testing.T) {
	for _, k := range everyKind() {
		if k.width == 0 {
			continue
		}
		good := row(k.samples[0].bits)
		for _, l := range [][]api.Bit{nil, {}, good[1:], append(slices.Clone(good), api.B0), append(slices.Clone(good), good...), slices.Repeat(row("0"), 5000)} {
			wantNoValue(t, fmt.Sprintf("Of(%s) of %d bits", k.name, len(l)), api.ErrForm)(Of(k.t, l))
		}
		for i := range good {
			if i > 70 && i < k.width-70 {
				continue
			}
			unknown := api.ErrForm
			if k.scalar.Kind == api.TBit {
				unknown = api.OK
			}
			for bit, want := range map[api.Bit]api.Errno{api.BX: unknown, api.BZ: unknown, 4: api.ErrForm, 255: api.ErrForm} {
				l := slices.Clone(good)
				l[i] = bit
				if v, err := Of(k.t, l); err != want || err != api.OK && !sameValue(v, api.Value{}) {
					t.Errorf("Of(%s) with %d at %d = %v, %d; want %d", k.name, bit, i, v, err, want)
				}
			}
		}
	}
}

// Over all rows of bits of its width, those and no others are an enumeration's that are an index.
func TestP4_7OfEnums(t *testing.T) {
	for _, k := range scalarKinds() {
		if k.t.Kind != api.TEnum && k.t.Kind != api.TBool {
			continue
		}
		of := map[string]api.Value{}
		for _, s := range k.samples {
			of[s.bits] = s.v
		}
		everyText(k.width, strings.Split("01xz", ""), func(letters string) {
			if len(letters) != k.width {
				return
			}
			call := fmt.Sprintf("Of(%s, %s)", k.name, letters)
			if v, ok := of[letters]; ok {
				wantValue(t, call, v)(Of(k.t, row(letters)))
			} else {
				wantNoValue(t, call, api.ErrForm)(Of(k.t, row(letters)))
			}
			pair := arrayKind(2, k)
			if _, ok := of[letters]; !ok {
				wantNoValue(t, call, api.ErrForm)(Of(pair.t, row(letters+k.samples[0].bits)))
				wantNoValue(t, call, api.ErrForm)(Of(pair.t, row(k.samples[0].bits+letters)))
			}
		})
	}
}

func TestP4_8Places(t *testing.T) {
	for _, k := range everyKind() {
		if got, err := Places(k.t); got != k.places || err != api.OK {
			t.Errorf("Places(%s) = %d, %d; want %d", k.name, got, err, k.places)
		}
	}
	for _, bad := range noTypes() {
		if got, err := Places(bad); got != 0 || err != api.ErrArg {
			t.Errorf("Places of %s = %d, %d", brief(bad), got, err)
		}
	}
}

func TestP4_8Split(t *testing.T) {
	for _, k := range everyKind() {
		for _, s := range k.samples {
			if got, err := Split(k.t, s.v); !sameValues(got, s.scalars) || err != api.OK {
				t.Errorf("Split(%s, %s) = %v, %d; want %v", k.name, s.text, got, err, s.scalars)
			}
		}
		for _, bad := range noValues(k) {
			if got, err := Split(k.t, bad); len(got) != 0 || err != api.ErrArg {
				t.Errorf("Split of no value of %s = %v, %d", k.name, got, err)
			}
		}
	}
	got, err := Split(arrayType(2, vecType(2)), listOf(vecOf("01"), vecOf("xz")))
	if want := []api.Value{bitOf("0"), bitOf("1"), bitOf("x"), bitOf("z")}; !sameValues(got, want) || err != api.OK {
		t.Errorf("Split = %v, %d; want %v", got, err, want)
	}
	for _, bad := range noTypes() {
		if got, err := Split(bad, api.Value{Kind: bad.Kind}); len(got) != 0 || err != api.ErrArg {
			t.Errorf("Split of %s = %v, %d", brief(bad), got, err)
		}
	}
}

func TestP4_8Join(t *testing.T) {
	for _, k := range everyKind() {
		for _, s := range k.samples {
			wantValue(t, fmt.Sprintf("Join(%s, %s)", k.name, s.text), s.v)(Join(k.t, s.scalars))
		}
	}
	wantValue(t, "Join", listOf(vecOf("01"), vecOf("xz")))(Join(arrayType(2, vecType(2)), []api.Value{bitOf("0"), bitOf("1"), bitOf("x"), bitOf("z")}))
}

// Scalars too many, too few, or of another type, wherever they stand, are refused.
func TestP4_8JoinRefuses(t *testing.T) {
	for _, k := range everyKind() {
		good := k.samples[0].scalars
		for _, l := range [][]api.Value{nil, {}, good[1:], append(slices.Clone(good), good[0]), append(slices.Clone(good), good...)} {
			wantNoValue(t, fmt.Sprintf("Join(%s) of %d", k.name, len(l)), api.ErrArg)(Join(k.t, l))
		}
		scalar := kind{t: k.scalar, samples: []sample{{v: good[0]}}}
		for n, bad := range noValues(scalar) {
			for _, place := range []int{0, n % len(good), len(good) - 1} {
				l := slices.Clone(good)
				l[place] = bad
				wantNoValue(t, fmt.Sprintf("Join(%s) with another value at %d", k.name, place), api.ErrArg)(Join(k.t, l))
			}
		}
		if k.places > 1 {
			wantNoValue(t, fmt.Sprintf("Join(%s) of the whole", k.name), api.ErrArg)(Join(k.t, []api.Value{k.samples[0].v}))
		}
	}
	for _, bad := range noTypes() {
		for n := range 5 {
			wantNoValue(t, "Join of "+brief(bad), api.ErrArg)(Join(bad, slices.Repeat([]api.Value{bitOf("0")}, n)))
		}
	}
}

func TestP4_8Scalar(t *testing.T) {
	for _, k := range everyKind() {
		for place := range k.places {
			if got, err := Scalar(k.t, place); !sameType(got, k.scalar) || err != api.OK {
				t.Errorf("Scalar(%s, %d) = %v, %d; want %v", k.name, place, got, err, k.scalar)
			}
		}
		for _, place := range noIndices(k.places) {
			if got, err := Scalar(k.t, place); !sameType(got, api.Type{}) || err != api.ErrRange {
				t.Errorf("Scalar(%s, %d) = %v, %d", k.name, place, got, err)
			}
		}
	}
	for _, bad := range noTypes() {
		for _, place := range []int{0, 1, -1, 1000} {
			if got, err := Scalar(bad, place); !sameType(got, api.Type{}) || err != api.ErrArg {
				t.Errorf("Scalar of %s, %d = %v, %d", brief(bad), place, got, err)
			}
		}
	}
}
