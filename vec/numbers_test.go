package vec

import (
	"fmt"
	"math"
	"math/big"
	"strings"
	"testing"

	"netwright/api"
)

type sum struct {
	name   string
	of     func(a, b []api.Bit) ([]api.Bit, api.Errno)
	number func(x, y *big.Int) *big.Int
}

func sums() []sum {
	return []sum{
		{"Add", Add, func(x, y *big.Int) *big.Int { return new(big.Int).Add(x, y) }},
		{"Sub", Sub, func(x, y *big.Int) *big.Int { return new(big.Int).Sub(x, y) }},
		{"Mul", Mul, func(x, y *big.Int) *big.Int { return new(big.Int).Mul(x, y) }},
	}
}

type comparison struct {
	name string
	of   func(a, b []api.Bit) (bool, api.Errno)
}

func comparisons() []comparison {
	return []comparison{{"Less", Less}, {"Signed", Signed}, {"Same", Same}}
}

func TestP2_1Number(t *testing.T) {
	texts := shortTexts(8, "01")
	for _, n := range longLengths() {
		texts = append(texts, knownTexts(n)...)
	}
	for i := range 64 {
		texts = append(texts, wrapped(new(big.Int).Lsh(big.NewInt(1), uint(i)), 64))
	}
	for _, s := range texts {
		got, err := Number(vector(t, s))
		if got != number(t, s).Uint64() || err != api.OK {
			t.Errorf("Number(%q) = %d, %d", s, got, err)
		}
	}
	if got, err := Number(vector(t, strings.Repeat("1", 64))); got != math.MaxUint64 || err != api.OK {
		t.Errorf("Number of 64 ones = %d, %d", got, err)
	}
}

func TestP2_1NumberOfUnknown(t *testing.T) {
	texts := shortTexts(3, "01xz")
	for _, n := range longLengths() {
		texts = append(texts, unknownTexts(n)...)
	}
	for _, s := range texts {
		if isKnown(s) {
			continue
		}
		if got, err := Number(vector(t, s)); got != 0 || err != api.ErrNone {
			t.Errorf("Number(%q) = %d, %d", s, got, err)
		}
	}
}

func TestP2_1NumberRefuses(t *testing.T) {
	for _, v := range noVectors() {
		if got, err := Number(v); got != 0 || err != api.ErrArg {
			t.Errorf("Number(%v) = %d, %d", v, got, err)
		}
	}
}

// someNumbers are ints below and above 0, up to 64 bits.
func someNumbers() []int {
	all := []int{
		math.MinInt64, math.MinInt64 + 1, math.MaxInt64, math.MaxInt64 - 1, 0x0123456789abcdef, -0x0123456789abcdef,
		math.MinInt32, math.MinInt32 - 1, math.MaxInt32, math.MaxInt32 + 1, math.MaxUint32, math.MaxUint32 + 1, -1 << 32, 1 << 62, -1 << 62,
	}
	for k := -20; k <= 20; k++ {
		all = append(all, k)
	}
	return all
}

func TestP2_1Of(t *testing.T) {
	for n := 1; n <= 64; n++ {
		for _, k := range someNumbers() {
			wantVector(t, fmt.Sprintf("Of(%d, %d)", k, n), wrapped(big.NewInt(int64(k)), n))(Of(k, n))
		}
	}
	wantVector(t, "Of(-1, 3)", "111")(Of(-1, 3))
	wantVector(t, "Of(-7, 4)", "1001")(Of(-7, 4))
	wantVector(t, "Of(6, 4)", "0110")(Of(6, 4))
	wantVector(t, "Of(6, 1)", "0")(Of(6, 1))
	wantVector(t, "Of(-1, 64)", strings.Repeat("1", 64))(Of(-1, 64))
	wantVector(t, "Of(MinInt, 64)", "1"+strings.Repeat("0", 63))(Of(math.MinInt, 64))
}

func TestP2_1OfRefuses(t *testing.T) {
	for _, n := range noLengths() {
		for _, k := range []int{0, 1, -1, math.MaxInt, math.MinInt} {
			wantError(t, fmt.Sprintf("Of(%d, %d)", k, n), api.ErrArg)(Of(k, n))
		}
	}
}

func TestP2_2Sums(t *testing.T) {
	for _, s := range sums() {
		check := func(a, b string) {
			t.Helper()
			want := strings.Repeat("x", len(a))
			if isKnown(a + b) {
				want = wrapped(s.number(number(t, a), number(t, b)), len(a))
			}
			wantVector(t, fmt.Sprintf("%s(%q, %q)", s.name, a, b), want)(s.of(vector(t, a), vector(t, b)))
		}
		everyPair(4, "01", check)
		everyPair(3, "01xz", check)
		longPairs(check)
	}
}

// everyPair calls f with all pairs of strings of one length, 1 to n, of the letters.
func everyPair(n int, letters string, f func(a, b string)) {
	for length := 1; length <= n; length++ {
		for _, a := range everyText(length, letters) {
			for _, b := range everyText(length, letters) {
				f(a, b)
			}
		}
	}
}

// longPairs calls f with pairs of strings of one length, of all lengths that matter.
func longPairs(f func(a, b string)) {
	for _, n := range longLengths() {
		for _, a := range append(knownTexts(n), unknownTexts(n)...) {
			for _, b := range append(knownTexts(n), unknownTexts(n)...) {
				f(a, b)
			}
		}
	}
}

func TestP2_2Examples(t *testing.T) {
	for _, c := range []struct {
		of         func(a, b []api.Bit) ([]api.Bit, api.Errno)
		a, b, want string
	}{
		{Add, "0110", "0011", "1001"}, {Add, "0110", "00x1", "xxxx"}, {Add, "00z1", "0110", "xxxx"},
		{Sub, "0110", "0011", "0011"}, {Sub, "0011", "0110", "1101"}, {Sub, "0", "1", "1"},
		{Mul, "0110", "0011", "0010"}, {Mul, "0000", "000x", "xxxx"}, {Add, "1", "1", "0"},
		{Add, strings.Repeat("1", 64), strings.Repeat("0", 63) + "1", strings.Repeat("0", 64)},
		{Sub, strings.Repeat("0", 64), strings.Repeat("0", 63) + "1", strings.Repeat("1", 64)},
		{Mul, strings.Repeat("1", 64), strings.Repeat("1", 64), strings.Repeat("0", 63) + "1"},
	} {
		wantVector(t, fmt.Sprintf("of %q and %q", c.a, c.b), c.want)(c.of(vector(t, c.a), vector(t, c.b)))
	}
}

func TestP2_2SumsRefuse(t *testing.T) {
	for _, s := range sums() {
		badPairs(func(a, b []api.Bit) {
			t.Helper()
			wantError(t, fmt.Sprintf("%s(%v, %v)", s.name, a, b), api.ErrArg)(s.of(a, b))
		})
	}
}

// badPairs calls f with pairs that are not two vectors of one length.
func badPairs(f func(a, b []api.Bit)) {
	for _, v := range noVectors() {
		f(v, v)
		f(v, mate(v))
		f(mate(v), v)
	}
	for _, b := range []api.Bit{api.B0, api.B1, api.BX, api.BZ} {
		for _, n := range []int{2, 3, 64} {
			long := make([]api.Bit, n)
			for i := range long {
				long[i] = b
			}
			f(long, long[:n-1])
			f(long[:n-1], long)
			f(long, []api.Bit{api.BX})
			f([]api.Bit{api.BX}, long)
		}
	}
	// That the one is not known does not hide that the other one is no vector.
	f([]api.Bit{api.BX, api.B0}, []api.Bit{api.B0, 4})
	f([]api.Bit{api.B0, 4}, []api.Bit{api.BX, api.B0})
}

func TestP2_2SumsAreNewMemory(t *testing.T) {
	for _, s := range sums() {
		of := func(l [][]api.Bit) ([]api.Bit, api.Errno) { return s.of(l[0], l[1]) }
		keeps(t, s.name, of, "0110", "0011")
		keeps(t, s.name, of, "0110", "0000")
		keeps(t, s.name, of, "xxxx", "xxxx")
		keeps(t, s.name, of, "z", "1")
	}
}

func TestP2_3Comparisons(t *testing.T) {
	check := func(a, b string) {
		t.Helper()
		known := isKnown(a + b)
		wants := map[string]bool{
			"Less":   known && number(t, a).Cmp(number(t, b)) < 0,
			"Signed": known && signed(t, a).Cmp(signed(t, b)) < 0,
			"Same":   a == b,
		}
		for _, c := range comparisons() {
			if got, err := c.of(vector(t, a), vector(t, b)); got != wants[c.name] || err != api.OK {
				t.Errorf("%s(%q, %q) = %t, %d", c.name, a, b, got, err)
			}
		}
	}
	everyPair(4, "01", check)
	everyPair(3, "01xz", check)
	longPairs(check)
}

func TestP2_3Examples(t *testing.T) {
	for _, c := range []struct {
		a, b               string
		less, signed, same bool
	}{
		{"1111", "0000", false, true, false}, {"0000", "1111", true, false, false},
		{"0011", "0110", true, true, false}, {"1000", "1001", true, true, false}, {"0111", "1000", true, false, false},
		{"0", "1", true, false, false}, {"1", "0", false, true, false}, {"1", "1", false, false, true},
		{"00x1", "0110", false, false, false}, {"0000", "1x11", false, false, false}, {"00x1", "00x1", false, false, true},
		{"x", "z", false, false, false}, {"z", "z", false, false, true}, {"x", "0", false, false, false}, {"0x", "1x", false, false, false},
	} {
		a, b := vector(t, c.a), vector(t, c.b)
		for i, want := range []bool{c.less, c.signed, c.same} {
			if got, err := comparisons()[i].of(a, b); got != want || err != api.OK {
				t.Errorf("%s(%q, %q) = %t, %d", comparisons()[i].name, c.a, c.b, got, err)
			}
		}
	}
}

func TestP2_3ComparisonsRefuse(t *testing.T) {
	for _, c := range comparisons() {
		badPairs(func(a, b []api.Bit) {
			t.Helper()
			if got, err := c.of(a, b); got || err != api.ErrArg {
				t.Errorf("%s(%v, %v) = %t, %d", c.name, a, b, got, err)
			}
		})
	}
}
