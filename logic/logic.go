// Package logic is layer 1: see shared/doc/01-logic.md.
package logic

import (
	"slices"
	"strings"

	"netwright/api"
)

// Op returns what an operation gives of two bits.
func Op(name string, a, b api.Bit) (api.Bit, api.Errno) {
	if !isBit(a) || !isBit(b) {
		return 0, api.ErrArg
	}
	switch name {
	case "and":
		return andTable[a][b], api.OK
	case "or":
		return orTable[a][b], api.OK
	case "xor":
		return xorTable[a][b], api.OK
	case "nand":
		return notTable[andTable[a][b]], api.OK
	case "nor":
		return notTable[orTable[a][b]], api.OK
	case "xnor":
		return notTable[xorTable[a][b]], api.OK
	}
	return 0, api.ErrArg
}

// Not returns the opposite of a bit.
func Not(a api.Bit) (api.Bit, api.Errno) {
	if !isBit(a) {
		return 0, api.ErrArg
	}
	return notTable[a], api.OK
}

// Resolve returns all bits resolved.
func Resolve(l []api.Bit) (api.Bit, api.Errno) {
	if !areBits(l) {
		return 0, api.ErrArg
	}
	// Resolving with z changes nothing, so z begins the row and is what an empty one gives.
	result := api.BZ
	for _, b := range l {
		result = resolveTable[result][b]
	}
	return result, api.OK
}

// Is reports whether v is a vector.
func Is(v []api.Bit) bool {
	return len(v) >= 1 && len(v) <= api.MaxVec && areBits(v)
}

// Known reports whether all bits are 0 or 1.
func Known(v []api.Bit) (bool, api.Errno) {
	if !Is(v) {
		return false, api.ErrArg
	}
	return !slices.ContainsFunc(v, isUnknown), api.OK
}

// Map returns what an operation gives bit by bit.
func Map(name string, a, b []api.Bit) ([]api.Bit, api.Errno) {
	if !oneLength(a, b) {
		return nil, api.ErrArg
	}
	result := make([]api.Bit, len(a))
	for i := range len(a) {
		bit, err := Op(name, a[i], b[i])
		if err != api.OK {
			return nil, err
		}
		result[i] = bit
	}
	return result, api.OK
}

// Inverse returns the opposite of each bit.
func Inverse(a []api.Bit) ([]api.Bit, api.Errno) {
	if !Is(a) {
		return nil, api.ErrArg
	}
	result := make([]api.Bit, len(a))
	for i := range len(a) {
		result[i] = notTable[a[i]]
	}
	return result, api.OK
}

// Join returns vectors resolved bit by bit.
func Join(l [][]api.Bit) ([]api.Bit, api.Errno) {
	if !oneLength(l...) {
		return nil, api.ErrArg
	}
	result := slices.Clone(l[0])
	for _, v := range l[1:] {
		for i := range len(v) {
			result[i] = resolveTable[result[i]][v[i]]
		}
	}
	return result, api.OK
}

// Edge returns 1 for a rising edge, -1 for a falling one, else 0.
func Edge(before, now api.Bit) (int, api.Errno) {
	if !isBit(before) || !isBit(now) {
		return 0, api.ErrArg
	}
	if before == api.B0 && now == api.B1 {
		return 1, api.OK
	}
	if before == api.B1 && now == api.B0 {
		return -1, api.OK
	}
	return 0, api.OK
}

// Text returns a vector as a string.
func Text(v []api.Bit) (string, api.Errno) {
	if !Is(v) {
		return "", api.ErrArg
	}
	text := make([]byte, len(v))
	for i := range len(v) {
		text[len(v)-1-i] = letters[v[i]]
	}
	return string(text), api.OK
}

// Parse returns the vector of a string.
func Parse(s string) ([]api.Bit, api.Errno) {
	if len(s) < 1 || len(s) > api.MaxVec {
		return nil, api.ErrForm
	}
	result := make([]api.Bit, len(s))
	for i := range len(s) {
		bit := strings.IndexByte(letters, s[i])
		if bit < 0 {
			return nil, api.ErrForm
		}
		result[len(s)-1-i] = api.Bit(bit)
	}
	return result, api.OK
}

// Covers reports whether b is a, with perhaps more known.
func Covers(a, b []api.Bit) (bool, api.Errno) {
	if !oneLength(a, b) {
		return false, api.ErrArg
	}
	for i := range len(a) {
		if !isUnknown(a[i]) && a[i] != b[i] {
			return false, api.OK
		}
	}
	return true, api.OK
}

func isBit(b api.Bit) bool { return b <= api.BZ }

func isUnknown(b api.Bit) bool { return b == api.BX || b == api.BZ }

func areBits(l []api.Bit) bool {
	for _, b := range l {
		if !isBit(b) {
			return false
		}
	}
	return true
}

// oneLength reports whether there is at least one vector, and all are vectors of one length.
func oneLength(vectors ...[]api.Bit) bool {
	for _, v := range vectors {
		if !Is(v) || len(v) != len(vectors[0]) {
			return false
		}
	}
	return len(vectors) > 0
}
