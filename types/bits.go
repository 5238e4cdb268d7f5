package types

import (
	"math/bits"

	"netwright/api"
	"netwright/logic"
	"netwright/vec"
)

// Width returns how many bits a type has.
func Width(t api.Type) (int, api.Errno) {
	if !Valid(t) {
		return 0, api.ErrArg
	}
	scalar := scalarType(t)
	if scalar.Kind == api.TInt {
		return 0, api.ErrType
	}
	return countScalars(t) * scalarWidth(scalar), api.OK
}

// Bits returns a value as bits.
func Bits(t api.Type, v api.Value) ([]api.Bit, api.Errno) {
	if !Has(t, v) {
		return nil, api.ErrArg
	}
	if _, err := Width(t); err != api.OK {
		return nil, err
	}
	var all []api.Bit
	width := scalarWidth(scalarType(t))
	eachScalar(v, func(scalar api.Value) { all = append(all, scalarBits(scalar, width)...) })
	return all, api.OK
}

// Of returns the value of bits.
func Of(t api.Type, l []api.Bit) (api.Value, api.Errno) {
	width, err := Width(t)
	if err != api.OK {
		return api.Value{}, err
	}
	if len(l) != width {
		return api.Value{}, api.ErrForm
	}
	scalar := scalarType(t)
	step := scalarWidth(scalar)
	scalars := make([]api.Value, countScalars(t))
	for place := range len(scalars) {
		v, ok := scalarOf(scalar, l[place*step:(place+1)*step])
		if !ok {
			return api.Value{}, api.ErrForm
		}
		scalars[place] = v
	}
	return Join(t, scalars)
}

// scalarWidth returns how many bits a scalar has whose type is no int.
func scalarWidth(t api.Type) int {
	if t.Kind == api.TEnum {
		return max(1, bits.Len(uint(len(t.Names)-1)))
	}
	return 1
}

// scalarBits returns a scalar that is no int as width bits.
func scalarBits(v api.Value, width int) []api.Bit {
	if v.Kind == api.TBit {
		return v.Bits
	}
	// A number has a vector of any length from 1 to 64.
	number, _ := vec.Of(v.N, width)
	return number
}

// scalarOf returns the scalar of a type with these bits, and whether there is one.
func scalarOf(t api.Type, l []api.Bit) (api.Value, bool) {
	if t.Kind == api.TBit {
		return bitValue(l[0]), logic.Is(l)
	}
	n, err := vec.Number(l)
	v := api.Value{Kind: t.Kind, N: int(n)}
	return v, err == api.OK && fits(t, v)
}
