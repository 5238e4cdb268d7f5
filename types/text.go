package types

import (
	"slices"
	"strconv"
	"strings"

	"netwright/api"
	"netwright/logic"
)

const (
	bitQuote    = `'`
	vectorQuote = `b"`
	textQuote   = `"`
	openRow     = `[`
	closeRow    = `]`
	comma       = `,`
)

// Text returns a value as a string.
func Text(t api.Type, v api.Value) (string, api.Errno) {
	if !Has(t, v) {
		return "", api.ErrArg
	}
	return written(t, v), api.OK
}

// Parse returns the value of a string.
func Parse(t api.Type, s string) (api.Value, api.Errno) {
	if !Valid(t) {
		return api.Value{}, api.ErrArg
	}
	v := read(t, s)
	if !fits(t, v) || written(t, v) != s {
		return api.Value{}, api.ErrForm
	}
	return v, api.OK
}

// Name returns the name of a type.
func Name(t api.Type) (string, api.Errno) {
	if !Valid(t) {
		return "", api.ErrArg
	}
	return nameOf(t), api.OK
}

// written returns a value of a valid type as it is written.
func written(t api.Type, v api.Value) string {
	switch t.Kind {
	case api.TBit:
		return bitQuote + lettersOf(v.Bits) + bitQuote
	case api.TBool:
		return strconv.FormatBool(v.N == 1)
	case api.TInt:
		return strconv.Itoa(v.N)
	case api.TVec:
		return vectorQuote + lettersOf(v.Bits) + textQuote
	case api.TEnum:
		return t.Names[v.N]
	}
	parts := make([]string, t.Len)
	for i := range t.Len {
		parts[i] = written(t.Elem[0], v.List[i])
	}
	return openRow + strings.Join(parts, comma) + closeRow
}

// read returns the only value of a valid type that can be written as s. Where there is none, what it returns does not fit the type, or is written in another way.
func read(t api.Type, s string) api.Value {
	v := api.Value{Kind: t.Kind}
	switch t.Kind {
	case api.TBit:
		v.Bits = bitsBetween(s, bitQuote, bitQuote)
	case api.TBool:
		if s == "true" {
			v.N = 1
		}
	case api.TInt:
		// What is no int becomes 0, or a number at an end of Go's ints.
		v.N, _ = strconv.Atoi(s)
	case api.TVec:
		v.Bits = bitsBetween(s, vectorQuote, textQuote)
	case api.TEnum:
		v.N = slices.Index(t.Names, s)
	case api.TArray:
		// Of too many parts the last ones stay together, with a comma, as no element is written.
		for _, part := range strings.SplitN(between(s, openRow, closeRow), comma, t.Len) {
			v.List = append(v.List, read(t.Elem[0], part))
		}
	}
	return v
}

// lettersOf returns the bits of a value, which are a vector, as letters.
func lettersOf(l []api.Bit) string {
	s, _ := logic.Text(l)
	return s
}

// bitsBetween returns the bits that stand in s between two quotes, none if s is no such string.
func bitsBetween(s, before, behind string) []api.Bit {
	l, _ := logic.Parse(between(s, before, behind))
	return l
}

// between returns what stands in s between its beginning and its end.
func between(s, before, behind string) string {
	return strings.TrimSuffix(strings.TrimPrefix(s, before), behind)
}

// nameOf returns the name of a valid type.
func nameOf(t api.Type) string {
	switch t.Kind {
	case api.TBit:
		return "bit"
	case api.TBool:
		return "bool"
	case api.TInt:
		return "int"
	case api.TVec:
		return "vec(" + strconv.Itoa(t.Len) + ")"
	case api.TEnum:
		return t.Name
	}
	return "array(" + strconv.Itoa(t.Len) + ") of " + nameOf(t.Elem[0])
}
