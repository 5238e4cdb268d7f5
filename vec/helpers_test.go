package vec

import (
	"math"
	"math/big"
	"slices"
	"strings"
	"testing"

	"netwright/api"
	"netwright/logic"
)

// The tests write vectors as strings, the highest bit first, and compute with them by strings and by big numbers, so that no function of the package checks itself.

func vector(t *testing.T, s string) []api.Bit {
	t.Helper()
	v, err := logic.Parse(s)
	if err != api.OK {
		t.Fatalf("Parse(%q): error %d", s, err)
	}
	return v
}

func text(t *testing.T, v []api.Bit) string {
	t.Helper()
	s, err := logic.Text(v)
	if err != api.OK {
		t.Fatalf("Text(%v): error %d", v, err)
	}
	return s
}

// everyText returns all strings of n of the letters.
func everyText(n int, letters string) []string {
	all := []string{""}
	for range n {
		var longer []string
		for _, s := range all {
			for _, letter := range letters {
				longer = append(longer, s+string(letter))
			}
		}
		all = longer
	}
	return all
}

// shortTexts returns all strings of 1 to n of the letters.
func shortTexts(n int, letters string) []string {
	var all []string
	for length := 1; length <= n; length++ {
		all = append(all, everyText(length, letters)...)
	}
	return all
}

// knownTexts returns known vectors of length n: the numbers at both ends, those around the sign, and some in between.
func knownTexts(n int) []string {
	all := []string{
		strings.Repeat("0", n), strings.Repeat("1", n),
		strings.Repeat("0", n-1) + "1", strings.Repeat("1", n-1) + "0",
		"1" + strings.Repeat("0", n-1), "0" + strings.Repeat("1", n-1),
		strings.Repeat("01", n)[:n], strings.Repeat("10", n)[:n], strings.Repeat("1100101", n)[:n],
	}
	slices.Sort(all)
	return slices.Compact(all)
}

// unknownTexts returns vectors of length n that are not known: with one bit x or z, at both ends and in the middle, and with many.
func unknownTexts(n int) []string {
	all := []string{strings.Repeat("x", n), strings.Repeat("z", n), strings.Repeat("z10x", n)[:n]}
	for _, letter := range []string{"x", "z"} {
		for _, at := range []int{0, n / 2, n - 1} {
			all = append(all, strings.Repeat("1", at)+letter+strings.Repeat("0", n-1-at))
		}
	}
	slices.Sort(all)
	return slices.Compact(all)
}

// longLengths are those at the ends of what vectors, ints and machine words can have.
func longLengths() []int { return []int{1, 2, 7, 8, 30, 31, 32, 33, 62, 63, 64} }

// noVectors returns rows that are not vectors: of a wrong length, or with numbers that are no bits.
func noVectors() [][]api.Bit {
	all := [][]api.Bit{nil, {}}
	for _, b := range []api.Bit{api.B0, api.B1, api.BX, api.BZ} {
		all = append(all, slices.Repeat([]api.Bit{b}, 65), slices.Repeat([]api.Bit{b}, 66), slices.Repeat([]api.Bit{b}, 1000))
	}
	for _, bad := range []api.Bit{4, 5, 8, 127, 128, 254, 255} {
		all = append(all, []api.Bit{bad}, []api.Bit{bad, api.B0}, []api.Bit{api.B1, bad}, []api.Bit{api.BX, bad}, []api.Bit{bad, api.BZ})
		long := slices.Repeat([]api.Bit{api.B1}, 64)
		long[63] = bad
		all = append(all, long)
	}
	return all
}

// noLengths are ints that no vector has as its length.
func noLengths() []int {
	return []int{0, -1, -2, -64, 65, 66, 128, 256, 1 << 31, 1<<32 + 1, -1<<32 + 1, math.MaxInt, math.MinInt, math.MinInt + 1}
}

// mate returns a vector of the length of v, or of the nearest one that a vector can have.
func mate(v []api.Bit) []api.Bit {
	return slices.Repeat([]api.Bit{api.B1}, max(1, min(64, len(v))))
}

// number returns the number of a known string.
func number(t *testing.T, s string) *big.Int {
	t.Helper()
	k, ok := new(big.Int).SetString(s, 2)
	if !ok {
		t.Fatalf("%q is no number", s)
	}
	return k
}

// signed returns the number of a known string in two's complement.
func signed(t *testing.T, s string) *big.Int {
	t.Helper()
	k := number(t, s)
	if s[0] == '1' {
		k.Sub(k, new(big.Int).Lsh(big.NewInt(1), uint(len(s))))
	}
	return k
}

// wrapped returns the string of a number modulo 2^n.
func wrapped(k *big.Int, n int) string {
	s := new(big.Int).Mod(k, new(big.Int).Lsh(big.NewInt(1), uint(n))).Text(2)
	return strings.Repeat("0", n-len(s)) + s
}

func isKnown(s string) bool { return !strings.ContainsAny(s, "xz") }

// wantVector checks the result of a call that succeeds.
func wantVector(t *testing.T, call, want string) func([]api.Bit, api.Errno) {
	return func(got []api.Bit, err api.Errno) {
		t.Helper()
		if !slices.Equal(got, vector(t, want)) || err != api.OK {
			t.Errorf("%s = %v, %d; want %q", call, got, err, want)
		}
	}
}

// wantError checks the result of a call that is refused.
func wantError(t *testing.T, call string, want api.Errno) func([]api.Bit, api.Errno) {
	return func(got []api.Bit, err api.Errno) {
		t.Helper()
		if len(got) != 0 || err != want {
			t.Errorf("%s = %v, %d; want error %d", call, got, err, want)
		}
	}
}

// keeps checks that a call of vectors neither changes them nor shares their memory, nor that of another result: it overwrites the result.
func keeps(t *testing.T, call string, of func(l [][]api.Bit) ([]api.Bit, api.Errno), texts ...string) {
	t.Helper()
	var l [][]api.Bit
	for _, s := range texts {
		l = append(l, append(make([]api.Bit, 0, 80), vector(t, s)...))
	}
	other, _ := of(l)
	got, err := of(l)
	if err != api.OK || !slices.Equal(got, other) {
		t.Fatalf("%s of %q = %v, %d; before %v", call, texts, got, err, other)
	}
	got = got[:cap(got)]
	for i := range got {
		got[i] = 9
	}
	if slices.Contains(other[:cap(other)], 9) {
		t.Errorf("%s of %q shares memory with another result", call, texts)
	}
	for i, s := range texts {
		if text(t, l[i]) != s {
			t.Errorf("%s of %q changes an argument or shares its memory", call, texts)
		}
		if slices.Contains(l[i][:cap(l[i])], 9) {
			t.Errorf("%s of %q shares the memory behind an argument", call, texts)
		}
	}
}
