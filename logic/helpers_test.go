package logic

import (
	"slices"
	"strings"
	"testing"

	"netwright/api"
)

const (
	b0 = api.B0
	b1 = api.B1
	bx = api.BX
	bz = api.BZ
)

func everyBit() []api.Bit { return []api.Bit{b0, b1, bx, bz} }

func everyOp() []string { return []string{"and", "or", "xor", "nand", "nor", "xnor"} }

func noOps() []string {
	return []string{"", "not", "And", "AND", " and", "and ", "an", "andd", "xand", "resolve", "&", "+", "\xff", strings.Repeat("and", 50000)}
}

func noBits() []api.Bit { return []api.Bit{4, 5, 7, 8, 16, 64, 127, 128, 252, 254, 255} }

// filled returns n bits: the whole of row, again and again.
func filled(n int, row ...api.Bit) []api.Bit {
	v := make([]api.Bit, n)
	for i := range v {
		v[i] = row[i%len(row)]
	}
	return v
}

// everyVector returns all vectors of length n.
func everyVector(n int) [][]api.Bit {
	all := [][]api.Bit{nil}
	for range n {
		var longer [][]api.Bit
		for _, v := range all {
			for _, b := range everyBit() {
				longer = append(longer, append(slices.Clone(v), b))
			}
		}
		all = longer
	}
	return all
}

// noVectors returns rows that are not vectors: of a wrong length, or with what is no bit.
func noVectors() [][]api.Bit {
	all := [][]api.Bit{nil, {}, filled(65, b0), filled(65, bz), filled(66, b1), filled(1000, bx)}
	for _, b := range noBits() {
		last := filled(64, b1)
		last[63] = b
		all = append(all, []api.Bit{b}, []api.Bit{b, b0}, []api.Bit{b0, b}, []api.Bit{b0, b, bx}, last)
	}
	return all
}

// longVectors returns vectors of 64 bits, and of lengths near to it.
func longVectors() [][]api.Bit {
	var all [][]api.Bit
	for _, n := range []int{1, 2, 31, 32, 33, 63, 64} {
		all = append(all, filled(n, b0), filled(n, b1), filled(n, bx), filled(n, bz), filled(n, b1, bz, b0, bx, b1), filled(n, b0, b0, b1))
	}
	return all
}

func op(t *testing.T, name string, a, b api.Bit) api.Bit {
	t.Helper()
	got, err := Op(name, a, b)
	if err != api.OK {
		t.Fatalf("Op(%q, %d, %d): error %d", name, a, b, err)
	}
	return got
}

func not(t *testing.T, a api.Bit) api.Bit {
	t.Helper()
	got, err := Not(a)
	if err != api.OK {
		t.Fatalf("Not(%d): error %d", a, err)
	}
	return got
}

func resolve(t *testing.T, l ...api.Bit) api.Bit {
	t.Helper()
	got, err := Resolve(l)
	if err != api.OK {
		t.Fatalf("Resolve(%v): error %d", l, err)
	}
	return got
}

func covers(t *testing.T, a, b []api.Bit) bool {
	t.Helper()
	got, err := Covers(a, b)
	if err != api.OK {
		t.Fatalf("Covers(%v, %v): error %d", a, b, err)
	}
	return got
}
