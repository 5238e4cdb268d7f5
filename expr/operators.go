package expr

import "netwright/api"

// How strongly the parts of an expression are bound, the weakest first: by operators of two in the rows of the grammar, by not and - of one, and by brackets or not at all.
const (
	logical = 1 + iota
	comparison
	sum
	product
	prefix
	primary
)

// rowOf returns how strongly an operator of two binds, 0 if s is none.
func rowOf(s string) int {
	switch s {
	case "and", "or", "xor", "nand", "nor", "xnor":
		return logical
	case "=", "/=", "<", "<=", ">", ">=":
		return comparison
	case "+", "-", "&":
		return sum
	case "*", "/", "mod", "shl", "shr":
		return product
	}
	return 0
}

// isPrefix reports whether s is an operator of one.
func isPrefix(s string) bool { return s == "not" || s == "-" }

// strengthOf returns how strongly the parts of an expression are bound.
func strengthOf(e *api.Expr) int {
	switch {
	case e.Op == api.ECall && len(e.Kids) == 2 && rowOf(e.Name) > 0:
		return rowOf(e.Name)
	case e.Op == api.ECall && len(e.Kids) == 1 && isPrefix(e.Name):
		return prefix
	}
	return primary
}
