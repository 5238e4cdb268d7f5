package expr

import (
	"slices"
	"strings"

	"netwright/api"
	"netwright/lexer"
	"netwright/tokens"
)

// bitLetters are the bits as they are written.
const bitLetters = "01xz"

// reader goes over tokens by the rules of the grammar. A rule that cannot go on panics with the fault.
type reader struct {
	tokens.Reader
	depth int // how many brackets, not and - of one are open
}

// read returns what a rule reads from the token at, and the index of the token after it.
func read[T any](l []api.Token, at int, rule func(*reader) T) (result T, next int, f api.Fault) {
	if at < 0 || at > len(l) || !arePossible(l) {
		return result, 0, api.Fault{Code: api.ErrArg}
	}
	defer func() {
		if failure := recover(); failure != nil {
			f = failure.(api.Fault)
		}
	}()
	r := &reader{Reader: tokens.Reader{List: l, At: at, End: api.Fault{Code: api.ErrEnd}}}
	result = rule(r)
	return result, r.At, api.Fault{}
}

// arePossible reports whether all tokens are possible. There may be more of them than the lexer takes at once.
func arePossible(l []api.Token) bool {
	for part := range slices.Chunk(l, api.MaxText) {
		if _, err := lexer.Text(part); err != api.OK {
			return false
		}
	}
	return true
}

// open goes over a bracket, not or - of one, behind which everything is one deeper.
func (r *reader) open() api.Token {
	if r.depth == api.MaxNest {
		panic(r.Fault(api.ErrDeep))
	}
	r.depth++
	return r.Take()
}

// shut goes over the bracket that ends what the last one opened.
func (r *reader) shut() {
	r.Expect(")")
	r.depth--
}

func (r *reader) expression() api.Expr { return r.row(logical) }

// row reads operators of one row of the grammar, with all that binds more strongly.
func (r *reader) row(strength int) api.Expr {
	if strength == prefix {
		return r.factor()
	}
	left := r.row(strength + 1)
	for rowOf(r.Fixed()) == strength {
		operator := r.Take()
		right := r.row(strength + 1)
		left = operation(operator, left, right)
		// Comparisons are not in rows.
		if strength == comparison {
			break
		}
	}
	return left
}

func (r *reader) factor() api.Expr {
	if !r.Sees("not") && !r.Sees("-") {
		return r.primary()
	}
	operator := r.open()
	operand := r.factor()
	r.depth--
	return operation(operator, operand)
}

func (r *reader) primary() api.Expr {
	// Several arguments can only stand at once behind a name, not behind a name in brackets.
	most := 1
	if r.Next().Op == api.TokName {
		most = maxArgs
	}
	return r.pieces(r.first(), most)
}

// first reads what a primary begins with.
func (r *reader) first() api.Expr {
	t := r.Next()
	e := api.Expr{Line: t.Line, Col: t.Col}
	switch {
	case r.Sees("("):
		return r.bracketed()
	case t.Op == api.TokName:
		e.Op, e.Name = api.EName, t.Text
	case t.Op == api.TokInt:
		e.Op, e.N = api.EInt, t.N
	case t.Op == api.TokBit:
		e.Op, e.Bits = api.EBit, bitsOf(t.Text)
	case t.Op == api.TokVec:
		e.Op, e.Bits = api.EVec, bitsOf(t.Text)
	default:
		panic(r.Fault(api.ErrSyntax))
	}
	r.At++
	return e
}

// bracketed reads an expression in brackets.
func (r *reader) bracketed() api.Expr {
	if !r.Sees("(") {
		panic(r.Fault(api.ErrSyntax))
	}
	r.open()
	e := r.expression()
	r.shut()
	return e
}

// pieces reads all brackets behind e: with arguments, at most so many, if e is a name, else with an index, or with the bounds of a slice.
func (r *reader) pieces(e api.Expr, most int) api.Expr {
	for r.Sees("(") {
		e = r.piece(e, most)
	}
	return e
}

func (r *reader) piece(e api.Expr, most int) api.Expr {
	bracket := r.open()
	kids := []api.Expr{r.expression()}
	result := api.Expr{Op: api.EIndex, Line: bracket.Line, Col: bracket.Col}
	switch {
	case r.Accept("downto"):
		low := r.expression()
		result.Op, result.Kids = api.ESlice, []api.Expr{e, kids[0], low}
	case e.Op == api.EName:
		for len(kids) < most && r.Accept(",") {
			kid := r.expression()
			kids = append(kids, kid)
		}
		result = api.Expr{Op: api.ECall, Name: e.Name, Kids: kids, Line: e.Line, Col: e.Col}
	default:
		result.Kids = []api.Expr{e, kids[0]}
	}
	r.shut()
	return result
}

func (r *reader) target() api.Expr {
	if r.Next().Op != api.TokName {
		panic(r.Fault(api.ErrSyntax))
	}
	return r.pieces(r.first(), 1)
}

func (r *reader) typeRef() api.TypeRef {
	t := r.Next()
	ref := api.TypeRef{Name: t.Text, Line: t.Line, Col: t.Col}
	switch {
	case t.Op == api.TokName:
		r.At++
	case r.Accept("vec"):
		ref.Len = []api.Expr{r.bracketed()}
	case r.Accept("array"):
		ref.Len = []api.Expr{r.bracketed()}
		r.Expect("of")
		ref.Elem = []api.TypeRef{r.element()}
	default:
		panic(r.Fault(api.ErrSyntax))
	}
	return ref
}

// element reads the type of an array's elements, which is no array.
func (r *reader) element() api.TypeRef {
	if r.Sees("array") {
		panic(r.Fault(api.ErrSyntax))
	}
	return r.typeRef()
}

// operation returns the call of an operator.
func operation(operator api.Token, kids ...api.Expr) api.Expr {
	return api.Expr{Op: api.ECall, Name: operator.Text, Kids: kids, Line: operator.Line, Col: operator.Col}
}

// bitsOf returns the bits of letters, the highest one first.
func bitsOf(letters string) []api.Bit {
	l := make([]api.Bit, len(letters))
	for i := range len(letters) {
		l[len(l)-1-i] = api.Bit(strings.IndexByte(bitLetters, letters[i]))
	}
	return l
}
