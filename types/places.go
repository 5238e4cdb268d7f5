package types

import (
	"slices"

	"netwright/api"
)

// Places returns how many scalars a type has.
func Places(t api.Type) (int, api.Errno) {
	if !Valid(t) {
		return 0, api.ErrArg
	}
	return countScalars(t), api.OK
}

// Split returns the scalars of a value.
func Split(t api.Type, v api.Value) ([]api.Value, api.Errno) {
	if !Has(t, v) {
		return nil, api.ErrArg
	}
	var scalars []api.Value
	eachScalar(v, func(scalar api.Value) { scalars = append(scalars, scalar) })
	return scalars, api.OK
}

// Join returns the value of scalars.
func Join(t api.Type, l []api.Value) (api.Value, api.Errno) {
	if !Valid(t) || len(l) != countScalars(t) {
		return api.Value{}, api.ErrArg
	}
	scalar := scalarType(t)
	if slices.ContainsFunc(l, func(v api.Value) bool { return !fits(scalar, v) }) {
		return api.Value{}, api.ErrArg
	}
	place := 0
	return assemble(t, func() api.Value {
		v := l[place]
		place++
		return v
	}), api.OK
}

// Scalar returns the type of a scalar place.
func Scalar(t api.Type, place int) (api.Type, api.Errno) {
	if !Valid(t) {
		return api.Type{}, api.ErrArg
	}
	if !isWithin(place, 0, countScalars(t)-1) {
		return api.Type{}, api.ErrRange
	}
	scalar := scalarType(t)
	scalar.Names = slices.Clone(scalar.Names)
	return scalar, api.OK
}

// countScalars returns how many scalar places a valid type has.
func countScalars(t api.Type) int {
	switch t.Kind {
	case api.TVec:
		return t.Len
	case api.TArray:
		return t.Len * countScalars(t.Elem[0])
	}
	return 1
}

// scalarType returns the type that all scalars of a valid type have. Its Names are those of t.
func scalarType(t api.Type) api.Type {
	switch t.Kind {
	case api.TVec:
		return api.Type{Kind: api.TBit}
	case api.TArray:
		return scalarType(t.Elem[0])
	}
	return api.Type{Kind: t.Kind, Name: t.Name, Names: t.Names}
}

// eachScalar calls f with the value at each scalar place of v, in their order.
func eachScalar(v api.Value, f func(scalar api.Value)) {
	switch v.Kind {
	case api.TVec:
		for _, b := range v.Bits {
			f(bitValue(b))
		}
	case api.TArray:
		for _, element := range v.List {
			eachScalar(element, f)
		}
	default:
		f(clone(v))
	}
}

// assemble returns the value of a valid type whose scalars next gives, one with each call, in the order of their places.
func assemble(t api.Type, next func() api.Value) api.Value {
	switch t.Kind {
	case api.TVec:
		v := api.Value{Kind: api.TVec, Bits: make([]api.Bit, t.Len)}
		for i := range t.Len {
			scalar := next()
			v.Bits[i] = scalar.Bits[0]
		}
		return v
	case api.TArray:
		v := api.Value{Kind: api.TArray, List: make([]api.Value, t.Len)}
		for i := range t.Len {
			v.List[i] = assemble(t.Elem[0], next)
		}
		return v
	}
	return clone(next())
}
