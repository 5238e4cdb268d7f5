package vec

import (
	"math"
	"math/big"
	"strings"
	"testing"

	"netwright/api"
)

func intOps() []string { return []string{"+", "-", "*", "/", "mod"} }

// someInts are ints of the language: around 0, at both ends, and where products leave the range.
func someInts() []int {
	all := []int{
		math.MinInt32, math.MinInt32 + 1, math.MinInt32 + 2, -1 << 30, -1<<30 - 1, -65537, -65536, -46342, -46341, -46340, -1000, -17,
		math.MaxInt32, math.MaxInt32 - 1, math.MaxInt32 - 2, 1 << 30, 1<<30 - 1, 1<<30 + 1, 65535, 65536, 46340, 46341, 46342, 32768, 1000, 17,
	}
	for k := -9; k <= 9; k++ {
		all = append(all, k)
	}
	return all
}

// wantInt returns what Int is to return, by big numbers.
func wantInt(op string, a, b int) (int, api.Errno) {
	x, y, r := big.NewInt(int64(a)), big.NewInt(int64(b)), new(big.Int)
	if b == 0 && (op == "/" || op == "mod") {
		return 0, api.ErrZero
	}
	switch op {
	case "+":
		r.Add(x, y)
	case "-":
		r.Sub(x, y)
	case "*":
		r.Mul(x, y)
	case "/":
		r = quotientDown(x, y)
	case "mod":
		r.Sub(x, r.Mul(y, quotientDown(x, y)))
	}
	if r.Cmp(big.NewInt(math.MinInt32)) < 0 || r.Cmp(big.NewInt(math.MaxInt32)) > 0 {
		return 0, api.ErrRange
	}
	return int(r.Int64()), api.OK
}

// quotientDown returns the greatest number of which y times is not beyond x: big's Div rounds down where y is above 0.
func quotientDown(x, y *big.Int) *big.Int {
	if y.Sign() < 0 {
		x, y = new(big.Int).Neg(x), new(big.Int).Neg(y)
	}
	return new(big.Int).Div(x, y)
}

func TestP2_7Int(t *testing.T) {
	for _, op := range intOps() {
		for _, a := range someInts() {
			for _, b := range someInts() {
				want, wantErr := wantInt(op, a, b)
				if got, err := Int(op, a, b); got != want || err != wantErr {
					t.Errorf("Int(%q, %d, %d) = %d, %d; want %d, %d", op, a, b, got, err, want, wantErr)
				}
			}
		}
	}
}

func TestP2_7Examples(t *testing.T) {
	for _, c := range []struct {
		op         string
		a, b, want int
		err        api.Errno
	}{
		{"/", -7, 2, -4, api.OK}, {"mod", -7, 2, 1, api.OK}, {"/", 7, -2, -4, api.OK}, {"mod", 7, -2, -1, api.OK},
		{"/", -7, -2, 3, api.OK}, {"mod", -7, -2, -1, api.OK}, {"/", 7, 2, 3, api.OK}, {"mod", 7, 2, 1, api.OK},
		{"/", -6, 2, -3, api.OK}, {"mod", -6, 2, 0, api.OK}, {"/", 6, -2, -3, api.OK}, {"mod", 6, -2, 0, api.OK},
		{"/", -1, math.MaxInt32, -1, api.OK}, {"mod", -1, math.MaxInt32, math.MaxInt32 - 1, api.OK},
		{"/", math.MinInt32, -1, 0, api.ErrRange}, {"mod", math.MinInt32, -1, 0, api.OK},
		{"/", math.MinInt32, 1, math.MinInt32, api.OK}, {"/", math.MaxInt32, -1, -math.MaxInt32, api.OK},
		{"/", 0, 0, 0, api.ErrZero}, {"mod", 5, 0, 0, api.ErrZero}, {"mod", math.MinInt32, 0, 0, api.ErrZero},
		{"+", math.MaxInt32, 0, math.MaxInt32, api.OK}, {"+", math.MaxInt32, 1, 0, api.ErrRange}, {"+", math.MinInt32, -1, 0, api.ErrRange},
		{"+", math.MinInt32, math.MaxInt32, -1, api.OK}, {"-", math.MinInt32, 1, 0, api.ErrRange}, {"-", -1, math.MaxInt32, math.MinInt32, api.OK},
		{"-", 0, math.MinInt32, 0, api.ErrRange}, {"-", -1, math.MinInt32, math.MaxInt32, api.OK}, {"-", 0, 5, -5, api.OK},
		{"*", 1 << 16, 1 << 15, 0, api.ErrRange}, {"*", -1 << 16, 1 << 15, math.MinInt32, api.OK}, {"*", math.MinInt32, -1, 0, api.ErrRange},
		{"*", math.MinInt32, math.MinInt32, 0, api.ErrRange}, {"*", 46341, 46341, 0, api.ErrRange}, {"*", 46340, 46340, 2147395600, api.OK},
		{"*", 1 << 30, 1 << 2, 0, api.ErrRange}, {"*", 0, 0, 0, api.OK},
	} {
		if got, err := Int(c.op, c.a, c.b); got != c.want || err != c.err {
			t.Errorf("Int(%q, %d, %d) = %d, %d; want %d, %d", c.op, c.a, c.b, got, err, c.want, c.err)
		}
	}
}

func TestP2_7IntRefuses(t *testing.T) {
	refused := func(op string, a, b int) {
		t.Helper()
		if got, err := Int(op, a, b); got != 0 || err != api.ErrArg {
			t.Errorf("Int(%.20q, %d, %d) = %d, %d", op, a, b, got, err)
		}
	}
	noOps := []string{"", " ", "&", "**", "+ ", " +", "+-", "Mod", "MOD", "mod ", "mo", "modd", "rem", "div", "shl", "shr", "and", "=", "<", "%", "//", "\x00", "\xff", strings.Repeat("+", 100000)}
	for _, op := range noOps {
		for _, b := range []int{0, 1, -1, math.MaxInt32, math.MinInt32, math.MinInt} {
			refused(op, 1, b)
			refused(op, b, 0)
		}
	}
	beyond := []int{math.MaxInt32 + 1, math.MinInt32 - 1, math.MaxInt32 + 2, math.MaxUint32, 1 << 32, -1 << 32, 1<<32 + 1, 1 << 62, math.MaxInt, math.MinInt, math.MinInt + 1}
	for _, op := range intOps() {
		for _, k := range beyond {
			// Division by 0, and results within the range, do not make such a number an int.
			for _, b := range []int{0, 1, -1, 2, math.MaxInt32, math.MinInt32} {
				refused(op, k, b)
				refused(op, b, k)
			}
			refused(op, k, k)
			refused(op, k, -k)
		}
	}
}
