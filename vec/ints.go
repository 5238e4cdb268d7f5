package vec

import (
	"math"

	"netwright/api"
)

// Int returns what an operation gives of two ints.
func Int(op string, a, b int) (int, api.Errno) {
	if !isInt(a) || !isInt(b) {
		return 0, api.ErrArg
	}
	result := 0
	switch op {
	case "+":
		result = a + b
	case "-":
		result = a - b
	case "*":
		result = a * b
	case "/", "mod":
		if b == 0 {
			return 0, api.ErrZero
		}
		quotient, rest := divide(a, b)
		result = quotient
		if op == "mod" {
			result = rest
		}
	default:
		return 0, api.ErrArg
	}
	if !isInt(result) {
		return 0, api.ErrRange
	}
	return result, api.OK
}

// divide returns the quotient rounded down, and what is left; b is not 0.
func divide(a, b int) (int, int) {
	quotient, rest := a/b, a%b
	// Go rounds towards 0: a rest of the other sign than b's shows that this was up.
	if rest != 0 && (rest < 0) != (b < 0) {
		return quotient - 1, rest + b
	}
	return quotient, rest
}

// isInt reports whether k is an int of the language.
func isInt(k int) bool { return k >= math.MinInt32 && k <= math.MaxInt32 }
