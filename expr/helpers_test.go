package expr

import (
	"fmt"
	"math/rand/v2"
	"slices"
	"strings"
	"testing"

	"netwright/api"
	"netwright/lexer"
)

// operators are those of two, a row of the grammar each, the weakest first.
var operators = [][]string{
	{"and", "or", "xor", "nand", "nor", "xnor"},
	{"=", "/=", "<", "<=", ">", ">="},
	{"+", "-", "&"},
	{"*", "/", "mod", "shl", "shr"},
}

// rowIn returns the row of an operator of two, -1 if s is none.
func rowIn(s string) int {
	return slices.IndexFunc(operators, func(row []string) bool { return slices.Contains(row, s) })
}

func name(s string) api.Expr { return api.Expr{Op: api.EName, Name: s} }

func number(n int) api.Expr { return api.Expr{Op: api.EInt, N: n} }

// bits returns bits of letters, the highest one first.
func bits(letters string) []api.Bit {
	var l []api.Bit
	for _, letter := range letters {
		l = slices.Insert(l, 0, api.Bit(strings.IndexRune("01xz", letter)))
	}
	return l
}

func bit(letter string) api.Expr { return api.Expr{Op: api.EBit, Bits: bits(letter)} }

func vector(letters string) api.Expr { return api.Expr{Op: api.EVec, Bits: bits(letters)} }

func call(s string, kids ...api.Expr) api.Expr {
	return api.Expr{Op: api.ECall, Name: s, Kids: kids}
}

func index(what, i api.Expr) api.Expr {
	return api.Expr{Op: api.EIndex, Kids: []api.Expr{what, i}}
}

func slice(what, high, low api.Expr) api.Expr {
	return api.Expr{Op: api.ESlice, Kids: []api.Expr{what, high, low}}
}

// at returns an expression with a position.
func at(e api.Expr, line, col int) api.Expr {
	e.Line, e.Col = line, col
	return e
}

// changed returns a copy of an expression with a change.
func changed(e api.Expr, change func(e *api.Expr)) api.Expr {
	e = copied(e)
	change(&e)
	return e
}

func copied(e api.Expr) api.Expr {
	e.Bits = slices.Clone(e.Bits)
	e.Kids = slices.Clone(e.Kids)
	for i, kid := range e.Kids {
		e.Kids[i] = copied(kid)
	}
	return e
}

// bare returns an expression without positions.
func bare(e api.Expr) api.Expr {
	e = copied(e)
	walk(&e, func(e *api.Expr) { e.Line, e.Col = 0, 0 })
	return e
}

// walk calls f with an expression and everything in it.
func walk(e *api.Expr, f func(e *api.Expr)) {
	f(e)
	for i := range e.Kids {
		walk(&e.Kids[i], f)
	}
}

// brief returns the beginning of what a value looks like.
func brief(v any) string {
	s := fmt.Sprint(v)
	return s[:min(len(s), 300)]
}

// shape returns all of an expression that was read, but its positions, in brackets: what is called first, then the kids.
func shape(e api.Expr) string {
	parts := []string{e.Name}
	switch e.Op {
	case api.EInt:
		return fmt.Sprint(e.N)
	case api.EBit:
		return "'" + letters(e) + "'"
	case api.EVec:
		return "b" + letters(e)
	case api.EName:
		return e.Name
	case api.EIndex:
		parts[0] = "index"
	case api.ESlice:
		parts[0] = "slice"
	}
	for _, kid := range e.Kids {
		parts = append(parts, shape(kid))
	}
	return "(" + strings.Join(parts, " ") + ")"
}

// letters returns the bits of an expression, the highest one first.
func letters(e api.Expr) string {
	var s string
	for _, b := range e.Bits {
		s = string("01xz"[b]) + s
	}
	return s
}

// equal reports whether two expressions are the same, with all positions.
func equal(a, b api.Expr) bool {
	return a.Op == b.Op && a.Name == b.Name && a.N == b.N && slices.Equal(a.Bits, b.Bits) && a.Line == b.Line && a.Col == b.Col &&
		isZero(a.Val, a.Type) && isZero(b.Val, b.Type) && slices.EqualFunc(a.Kids, b.Kids, equal)
}

func isZero(v api.Value, t api.Type) bool {
	return v.Kind == 0 && v.N == 0 && len(v.Bits) == 0 && len(v.List) == 0 &&
		t.Kind == 0 && t.Len == 0 && t.Name == "" && len(t.Names) == 0 && len(t.Elem) == 0
}

func equalTypes(a, b api.TypeRef) bool {
	return a.Name == b.Name && a.Line == b.Line && a.Col == b.Col && slices.EqualFunc(a.Len, b.Len, equal) && slices.EqualFunc(a.Elem, b.Elem, equalTypes)
}

func token(op api.TokOp, text string) api.Token { return api.Token{Op: op, Text: text} }

// lex returns the tokens of a string that has only tokens.
func lex(t *testing.T, s string) []api.Token {
	t.Helper()
	l, fault := lexer.Lex(s)
	if fault != (api.Fault{}) {
		t.Fatalf("Lex(%.80q): fault %v", s, fault)
	}
	return l
}

// parsed returns the expression that is all of a string.
func parsed(t *testing.T, s string) api.Expr {
	t.Helper()
	l := lex(t, s)
	e, next, fault := Parse(l, 0)
	if next != len(l) || fault != (api.Fault{}) {
		t.Fatalf("Parse(%.200q): next %d, fault %v", s, next, fault)
	}
	return e
}

// textOf returns the string of an expression that is valid.
func textOf(t *testing.T, e api.Expr) string {
	t.Helper()
	s, err := Text(e)
	if err != api.OK {
		t.Fatalf("Text(%.200s): error %d", shape(e), err)
	}
	return s
}

// placed returns tokens with positions that are all different, and rise neither by lines nor by columns.
func placed(l []api.Token) []api.Token {
	l = slices.Clone(l)
	for i := range l {
		l[i].Line, l[i].Col = 70-7*i, 3*i-50
	}
	return l
}

// everyRow calls f with all rows of at most n of the tokens of a string.
func everyRow(t *testing.T, n int, s string, f func(l []api.Token)) {
	all := lex(t, s)
	var row []api.Token
	var grow func()
	grow = func() {
		f(placed(row))
		if len(row) == n {
			return
		}
		for _, one := range all {
			row = append(row, one)
			grow()
			row = row[:len(row)-1]
		}
	}
	grow()
}

// maker makes an expression of so many others.
type maker struct {
	kids int
	make func(kids []api.Expr) api.Expr
}

// makers are those of all operators, of calls, indices and slices. An index of a name is a call.
func makers() []maker {
	all := []maker{
		{1, func(kids []api.Expr) api.Expr { return call("f", kids...) }},
		{2, func(kids []api.Expr) api.Expr { return call("g", kids...) }},
		{3, func(kids []api.Expr) api.Expr { return slice(kids[0], kids[1], kids[2]) }},
		{2, func(kids []api.Expr) api.Expr {
			if e := kids[0]; equal(e, name(e.Name)) && lexer.IsName(e.Name) {
				return call(e.Name, kids[1])
			}
			return index(kids[0], kids[1])
		}},
	}
	for _, s := range []string{"not", "-"} {
		all = append(all, maker{1, func(kids []api.Expr) api.Expr { return call(s, kids...) }})
	}
	for _, row := range operators {
		for _, s := range row {
			all = append(all, maker{2, func(kids []api.Expr) api.Expr { return call(s, kids...) }})
		}
	}
	return all
}

// leaves are expressions without kids, at the ends of what they can be.
func leaves() []api.Expr {
	all := []api.Expr{
		name("a"), name("Z"), name("b"), name("x_0"), name("bit"), name("false"), name(strings.Repeat("q", 40)),
		number(0), number(1), number(10), number(2147483646), number(2147483647),
		vector("0"), vector("z"), vector("01xz"), vector(strings.Repeat("x1z0", 16)),
	}
	for _, letter := range []string{"0", "1", "x", "z"} {
		all = append(all, bit(letter))
	}
	return all
}

// within returns the expressions of one maker in which one kid is e, each in another place.
func within(m maker, e api.Expr) []api.Expr {
	var all []api.Expr
	for place := range m.kids {
		kids := []api.Expr{name("a"), number(1), bit("x")}[:m.kids]
		kids[place] = e
		all = append(all, m.make(kids))
	}
	return all
}

// smallTrees are all leaves, in each place of each maker, and these expressions in the same way.
func smallTrees() []api.Expr {
	all := leaves()
	for _, inner := range makers() {
		for _, leaf := range leaves() {
			all = append(all, within(inner, leaf)...)
		}
		for _, e := range within(inner, name("b")) {
			for _, outer := range makers() {
				all = append(all, within(outer, e)...)
			}
		}
	}
	return all
}

// fewMakers are those of calls, indices, slices, and one operator of each row.
func fewMakers() []maker {
	return slices.DeleteFunc(makers(), func(m maker) bool {
		s := m.make([]api.Expr{name("f"), number(1), number(1)}[:m.kids]).Name
		return rowIn(s) >= 0 && !slices.Contains([]string{"and", "=", "-", "*"}, s)
	})
}

// deeperTrees are chains of three makers.
func deeperTrees() []api.Expr {
	all := []api.Expr{name("b")}
	for range 3 {
		var next []api.Expr
		for _, m := range fewMakers() {
			for _, e := range all {
				next = append(next, within(m, e)...)
			}
		}
		all = next
	}
	return all
}

// source gives the same numbers in each run.
func source() *rand.Rand { return rand.New(rand.NewPCG(5, 7)) }

// randomTree returns an expression of about so many kids.
func randomTree(r *rand.Rand, size int) api.Expr {
	if size <= 0 {
		return leaves()[r.IntN(len(leaves()))]
	}
	all := makers()
	m := all[r.IntN(len(all))]
	kids := make([]api.Expr, m.kids)
	for i := range kids {
		kids[i] = randomTree(r, (size-1)/m.kids)
	}
	return m.make(kids)
}

// chain returns an expression in n others of one kind.
func chain(n int, e api.Expr, around func(e api.Expr) api.Expr) api.Expr {
	for range n {
		e = around(e)
	}
	return e
}

// spelled returns the tokens of an expression, with brackets around each kid for which put says so, whether it needs them or not. These have a line, which others have not.
func spelled(e api.Expr, put func() bool) []api.Token {
	var kids [][]api.Token
	for _, kid := range e.Kids {
		l := spelled(kid, put)
		if put() {
			l = slices.Concat([]api.Token{{Op: api.TokSign, Text: "(", Line: 1}}, l, []api.Token{{Op: api.TokSign, Text: ")", Line: 1}})
		}
		kids = append(kids, l)
	}
	open, shut := fixed("("), fixed(")")
	switch e.Op {
	case api.EInt:
		return []api.Token{{Op: api.TokInt, N: e.N}}
	case api.EBit:
		return []api.Token{token(api.TokBit, letters(e))}
	case api.EVec:
		return []api.Token{token(api.TokVec, letters(e))}
	case api.EName:
		return []api.Token{token(api.TokName, e.Name)}
	case api.EIndex:
		return slices.Concat(kids[0], open, kids[1], shut)
	case api.ESlice:
		return slices.Concat(kids[0], open, kids[1], fixed("downto"), kids[2], shut)
	}
	switch {
	case rowIn(e.Name) >= 0 && len(kids) == 2:
		return slices.Concat(kids[0], fixed(e.Name), kids[1])
	case e.Name == "not" || e.Name == "-":
		return slices.Concat(fixed(e.Name), kids[0])
	}
	l := slices.Concat([]api.Token{token(api.TokName, e.Name)}, open, kids[0])
	for _, kid := range kids[1:] {
		l = slices.Concat(l, fixed(","), kid)
	}
	return slices.Concat(l, shut)
}

// fixed returns the token of a reserved word or a sign.
func fixed(s string) []api.Token {
	if lexer.IsWord(s) {
		return []api.Token{token(api.TokWord, s)}
	}
	return []api.Token{token(api.TokSign, s)}
}
