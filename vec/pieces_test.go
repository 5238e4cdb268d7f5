package vec

import (
	"fmt"
	"math"
	"math/big"
	"slices"
	"strconv"
	"strings"
	"testing"

	"netwright/api"
)

// distances are ints within, at and beyond the length of any vector.
func distances() []int {
	all := []int{100, 128, 256, math.MaxInt32, 1 << 32, 1 << 62, math.MaxInt - 1, math.MaxInt}
	for k := range 67 {
		all = append(all, k)
	}
	return all
}

// somePieces returns vectors of the four values, of all lengths that matter.
func somePieces() []string {
	all := shortTexts(4, "01xz")
	for _, n := range longLengths() {
		all = append(all, strings.Repeat("1", n), strings.Repeat("z", n), strings.Repeat("10xz1", n)[:n], strings.Repeat("zx0", n)[:n])
	}
	return all
}

func TestP2_4LeftRight(t *testing.T) {
	for _, s := range somePieces() {
		for _, k := range distances() {
			zeros := strings.Repeat("0", min(k, len(s)))
			wantVector(t, fmt.Sprintf("Left(%q, %d)", s, k), (s + zeros)[len(zeros):])(Left(vector(t, s), k))
			wantVector(t, fmt.Sprintf("Right(%q, %d)", s, k), (zeros + s)[:len(s)])(Right(vector(t, s), k))
		}
	}
	wantVector(t, "Left(01x0, 1)", "1x00")(Left(vector(t, "01x0"), 1))
	wantVector(t, "Right(01x0, 2)", "0001")(Right(vector(t, "01x0"), 2))
	wantVector(t, "Left(1z, 2)", "00")(Left(vector(t, "1z"), 2))
	wantVector(t, "Right(1z, 1)", "01")(Right(vector(t, "1z"), 1))
}

func TestP2_4LeftRightRefuse(t *testing.T) {
	below := []int{-1, -2, -64, math.MinInt32, math.MinInt + 1, math.MinInt}
	for _, k := range below {
		for _, s := range []string{"0", "1", "01x0", strings.Repeat("z", 64)} {
			wantError(t, fmt.Sprintf("Left(%q, %d)", s, k), api.ErrRange)(Left(vector(t, s), k))
			wantError(t, fmt.Sprintf("Right(%q, %d)", s, k), api.ErrRange)(Right(vector(t, s), k))
		}
	}
	for _, v := range noVectors() {
		for _, k := range append(below, 0, 1, 64, math.MaxInt) {
			wantError(t, fmt.Sprintf("Left(%v, %d)", v, k), api.ErrArg)(Left(v, k))
			wantError(t, fmt.Sprintf("Right(%v, %d)", v, k), api.ErrArg)(Right(v, k))
		}
	}
}

func TestP2_5Cat(t *testing.T) {
	for _, high := range somePieces() {
		for _, low := range somePieces() {
			call := fmt.Sprintf("Cat(%q, %q)", high, low)
			if len(high)+len(low) > 64 {
				wantError(t, call, api.ErrRange)(Cat(vector(t, high), vector(t, low)))
			} else {
				wantVector(t, call, high+low)(Cat(vector(t, high), vector(t, low)))
			}
		}
	}
	wantVector(t, "Cat(10, 0x)", "100x")(Cat(vector(t, "10"), vector(t, "0x")))
}

func TestP2_5CatRefuses(t *testing.T) {
	one, long := vector(t, "1"), vector(t, strings.Repeat("x", 64))
	wantError(t, "Cat of 64 and 1", api.ErrRange)(Cat(long, one))
	wantError(t, "Cat of 1 and 64", api.ErrRange)(Cat(one, long))
	wantError(t, "Cat of 64 and 64", api.ErrRange)(Cat(long, long))
	wantError(t, "Cat of 32 and 33", api.ErrRange)(Cat(long[:32], long[:33]))
	for _, v := range noVectors() {
		for _, w := range [][]api.Bit{one, long, v} {
			wantError(t, fmt.Sprintf("Cat(%v, %v)", v, w), api.ErrArg)(Cat(v, w))
			wantError(t, fmt.Sprintf("Cat(%v, %v)", w, v), api.ErrArg)(Cat(w, v))
		}
	}
}

func TestP2_5Slice(t *testing.T) {
	for _, s := range somePieces() {
		n := len(s)
		for h := range n {
			for l := range h + 1 {
				wantVector(t, fmt.Sprintf("Slice(%q, %d, %d)", s, h, l), s[n-1-h:n-l])(Slice(vector(t, s), h, l))
			}
		}
	}
	wantVector(t, "Slice(01x0, 2, 1)", "1x")(Slice(vector(t, "01x0"), 2, 1))
}

// noPieces returns pairs h and l that are no piece of a vector of length n.
func noPieces(n int) [][2]int {
	return [][2]int{
		{n, 0}, {n, n}, {n, n - 1}, {n + 1, 0}, {n - 1, n}, {0, 1}, {n - 1, -1}, {0, -1}, {-1, -1}, {-1, 0}, {-1, -2}, {-1, 1},
		{math.MaxInt, 0}, {math.MaxInt, math.MaxInt}, {math.MaxInt, math.MinInt}, {math.MinInt, math.MinInt},
		{math.MinInt, math.MaxInt}, {math.MinInt, 0}, {0, math.MinInt}, {0, math.MaxInt}, {1 << 32, 1 << 32}, {1 << 32, 0},
	}
}

func TestP2_5SliceRefuses(t *testing.T) {
	for _, s := range []string{"0", "x", "10", "01x0", strings.Repeat("1", 63), strings.Repeat("z", 64)} {
		for _, p := range noPieces(len(s)) {
			wantError(t, fmt.Sprintf("Slice(%q, %d, %d)", s, p[0], p[1]), api.ErrRange)(Slice(vector(t, s), p[0], p[1]))
		}
	}
	for _, v := range noVectors() {
		for _, p := range append(noPieces(len(v)), [2]int{0, 0}, [2]int{1, 0}) {
			wantError(t, fmt.Sprintf("Slice(%v, %d, %d)", v, p[0], p[1]), api.ErrArg)(Slice(v, p[0], p[1]))
		}
	}
}

func TestP2_5Put(t *testing.T) {
	for _, s := range somePieces() {
		n := len(s)
		for h := range n {
			for l := range h + 1 {
				for _, w := range []string{strings.Repeat("0", h-l+1), strings.Repeat("x1z0", 16)[:h-l+1]} {
					want := s[:n-1-h] + w + s[n-l:]
					wantVector(t, fmt.Sprintf("Put(%q, %d, %d, %q)", s, h, l, w), want)(Put(vector(t, s), h, l, vector(t, w)))
				}
			}
		}
	}
	wantVector(t, "Put(01x0, 3, 2, zz)", "zzx0")(Put(vector(t, "01x0"), 3, 2, vector(t, "zz")))
	wantVector(t, "Put(01x0, 0, 0, 1)", "01x1")(Put(vector(t, "01x0"), 0, 0, vector(t, "1")))
}

func TestP2_5PutRefuses(t *testing.T) {
	for _, s := range []string{"0", "x", "10", "01x0", strings.Repeat("1", 63), strings.Repeat("z", 64)} {
		v := vector(t, s)
		for _, p := range noPieces(len(s)) {
			for _, w := range []string{"1", s, strings.Repeat("x", 64)} {
				wantError(t, fmt.Sprintf("Put(%q, %d, %d, %q)", s, p[0], p[1], w), api.ErrRange)(Put(v, p[0], p[1], vector(t, w)))
			}
		}
		for h := range len(s) {
			for l := range h + 1 {
				for _, n := range []int{h - l, h - l + 2, 64} {
					if n == 0 || n > 64 || n == h-l+1 {
						continue
					}
					w := vector(t, strings.Repeat("x", n))
					wantError(t, fmt.Sprintf("Put(%q, %d, %d, of %d)", s, h, l, n), api.ErrType)(Put(v, h, l, w))
				}
			}
		}
	}
	for _, v := range noVectors() {
		for _, p := range append(noPieces(len(v)), [2]int{0, 0}, [2]int{1, 0}) {
			for _, good := range [][]api.Bit{{api.B1}, {api.B1, api.BX}, mate(v)} {
				wantError(t, fmt.Sprintf("Put(%v, %d, %d, %v)", v, p[0], p[1], good), api.ErrArg)(Put(v, p[0], p[1], good))
				wantError(t, fmt.Sprintf("Put(%v, %d, %d, %v)", good, p[0], p[1], v), api.ErrArg)(Put(good, p[0], p[1], v))
			}
		}
	}
}

func TestP2_6ToInt(t *testing.T) {
	texts := somePieces()
	for _, n := range longLengths() {
		texts = append(append(texts, knownTexts(n)...), unknownTexts(n)...)
	}
	for _, s := range texts {
		got, err := ToInt(vector(t, s))
		if len(s) > 31 {
			if got != 0 || err != api.ErrRange {
				t.Errorf("ToInt(%q) = %d, %d", s, got, err)
			}
			continue
		}
		want, _ := strconv.ParseInt(strings.NewReplacer("x", "0", "z", "0").Replace(s), 2, 64)
		if got != int(want) || err != api.OK {
			t.Errorf("ToInt(%q) = %d, %d; want %d", s, got, err, want)
		}
	}
	if got, err := ToInt(vector(t, strings.Repeat("1", 31))); got != math.MaxInt32 || err != api.OK {
		t.Errorf("ToInt of 31 ones = %d, %d", got, err)
	}
	if got, err := ToInt(vector(t, strings.Repeat("0", 32))); got != 0 || err != api.ErrRange {
		t.Errorf("ToInt of 32 zeros = %d, %d", got, err)
	}
	for _, v := range noVectors() {
		if got, err := ToInt(v); got != 0 || err != api.ErrArg {
			t.Errorf("ToInt(%v) = %d, %d", v, got, err)
		}
	}
}

func TestP2_6ToVec(t *testing.T) {
	for n := 1; n <= 64; n++ {
		for _, k := range someNumbers() {
			wantVector(t, fmt.Sprintf("ToVec(%d, %d)", k, n), wrapped(big.NewInt(int64(k)), n))(ToVec(k, n))
		}
	}
	wantVector(t, "ToVec(10, 3)", "010")(ToVec(10, 3))
	wantVector(t, "ToVec(-1, 2)", "11")(ToVec(-1, 2))
	for _, n := range noLengths() {
		for _, k := range []int{0, 1, -1, math.MaxInt, math.MinInt} {
			wantError(t, fmt.Sprintf("ToVec(%d, %d)", k, n), api.ErrRange)(ToVec(k, n))
		}
	}
}

func TestP2_6Resize(t *testing.T) {
	for _, s := range somePieces() {
		for n := 1; n <= 64; n++ {
			want := (strings.Repeat("0", 64) + s)[64+len(s)-n:]
			wantVector(t, fmt.Sprintf("Resize(%q, %d)", s, n), want)(Resize(vector(t, s), n))
		}
		for _, n := range noLengths() {
			wantError(t, fmt.Sprintf("Resize(%q, %d)", s, n), api.ErrRange)(Resize(vector(t, s), n))
		}
	}
	wantVector(t, "Resize(01x0, 6)", "0001x0")(Resize(vector(t, "01x0"), 6))
	wantVector(t, "Resize(z1x0, 3)", "1x0")(Resize(vector(t, "z1x0"), 3))
	for _, v := range noVectors() {
		for _, n := range append(noLengths(), 1, 2, 64) {
			wantError(t, fmt.Sprintf("Resize(%v, %d)", v, n), api.ErrArg)(Resize(v, n))
		}
	}
}

func TestP2_1And4To6AreNewMemory(t *testing.T) {
	for _, k := range []int{0, 1, 3, 4, 5} {
		keeps(t, "Left", func(l [][]api.Bit) ([]api.Bit, api.Errno) { return Left(l[0], k) }, "01xz")
		keeps(t, "Right", func(l [][]api.Bit) ([]api.Bit, api.Errno) { return Right(l[0], k) }, "01xz")
	}
	for _, n := range []int{1, 3, 4, 5, 64} {
		keeps(t, "Resize", func(l [][]api.Bit) ([]api.Bit, api.Errno) { return Resize(l[0], n) }, "01xz")
	}
	keeps(t, "Cat", func(l [][]api.Bit) ([]api.Bit, api.Errno) { return Cat(l[0], l[1]) }, "01xz", "1")
	for _, p := range [][2]int{{3, 0}, {3, 3}, {0, 0}, {2, 1}} {
		keeps(t, "Slice", func(l [][]api.Bit) ([]api.Bit, api.Errno) { return Slice(l[0], p[0], p[1]) }, "01xz")
		put := func(l [][]api.Bit) ([]api.Bit, api.Errno) { return Put(l[0], p[0], p[1], l[1]) }
		keeps(t, "Put", put, "01xz", strings.Repeat("z", p[0]-p[1]+1))
	}
	keeps(t, "Of", func([][]api.Bit) ([]api.Bit, api.Errno) { return Of(5, 4) })
	keeps(t, "ToVec", func([][]api.Bit) ([]api.Bit, api.Errno) { return ToVec(5, 4) })
	v := vector(t, "01xz")
	wantVector(t, "Put of a vector into itself", "01xz")(Put(v, 3, 0, v))
	wantVector(t, "Put of a part into its own vector", "xzxz")(Put(v, 3, 2, v[:2]))
	if !slices.Equal(v, vector(t, "01xz")) {
		t.Errorf("Put changes its argument to %v", v)
	}
}
