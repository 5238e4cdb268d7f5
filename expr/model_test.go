package expr

import (
	"slices"
	"strconv"

	"netwright/api"
)

// The tests have a parser of their own, which works another way, so that no function of the package checks itself: token by token, with operators and operands that wait on stacks.

const (
	prefixRow = 4
	mostArgs  = 20
)

// level is what has been read since a bracket that is open.
type level struct {
	opening   string    // "whole", "brackets", "call" (by a name), "index", or "low" of a slice
	bracket   api.Token // that of an index or a slice
	base      api.Expr  // what is called or has an index
	kids      []api.Expr
	operands  []api.Expr
	operators []api.Token
	rows      []int // of the operators
}

// model is what has been read of an expression, or of a target.
type model struct {
	target bool
	depth  int // how many brackets, not and - of one are open, with those around the expression
	levels []*level
	wanted bool // an operand comes next
	direct bool // several arguments may come next
}

func expectedExpr(l []api.Token, at int) (api.Expr, int, api.Fault) {
	m := model{}
	return m.run(l, at)
}

func expectedTarget(l []api.Token, at int) (api.Expr, int, api.Fault) {
	m := model{target: true}
	return m.run(l, at)
}

func (m *model) run(l []api.Token, at int) (api.Expr, int, api.Fault) {
	m.levels, m.wanted = []*level{{opening: "whole"}}, true
	for ; at < len(l); at++ {
		code := m.behind(l[at])
		if m.wanted && code == api.ErrNone {
			code = m.operand(l[at])
		}
		switch {
		case code == api.OK:
		case code == api.ErrNone && !m.wanted && len(m.levels) == 1:
			return m.finished(), at, api.Fault{}
		case code == api.ErrNone:
			return api.Expr{}, 0, faultOf(api.ErrSyntax, l[at])
		default:
			return api.Expr{}, 0, faultOf(code, l[at])
		}
	}
	if m.wanted || len(m.levels) > 1 {
		return api.Expr{}, 0, api.Fault{Code: api.ErrEnd}
	}
	return m.finished(), at, api.Fault{}
}

func faultOf(code api.Errno, t api.Token) api.Fault {
	text := t.Text
	if t.Op == api.TokInt {
		text = strconv.Itoa(t.N)
	}
	return api.Fault{Code: code, Name: text, Line: t.Line, Col: t.Col}
}

func (m *model) last() *level { return m.levels[len(m.levels)-1] }

// sign returns the text of a reserved word or a sign.
func sign(t api.Token) string {
	if t.Op == api.TokWord || t.Op == api.TokSign {
		return t.Text
	}
	return ""
}

// open takes an opening bracket, or a not or - of one.
func (m *model) open(take func()) api.Errno {
	if m.depth >= api.MaxNest {
		return api.ErrDeep
	}
	m.depth++
	take()
	m.wanted = true
	return api.OK
}

// operand takes a token where an operand is wanted: ErrNone if it cannot stand there.
func (m *model) operand(t api.Token) api.Errno {
	e := api.Expr{Line: t.Line, Col: t.Col}
	top := m.last()
	outside := m.target && len(m.levels) == 1
	switch {
	case t.Op == api.TokName:
		e.Op, e.Name = api.EName, t.Text
	case outside:
		return api.ErrNone
	case sign(t) == "not" || sign(t) == "-":
		return m.open(func() { top.push(t, prefixRow) })
	case sign(t) == "(":
		return m.open(func() { m.levels = append(m.levels, &level{opening: "brackets"}) })
	case t.Op == api.TokInt:
		e.Op, e.N = api.EInt, t.N
	case t.Op == api.TokBit:
		e.Op, e.Bits = api.EBit, bits(t.Text)
	case t.Op == api.TokVec:
		e.Op, e.Bits = api.EVec, bits(t.Text)
	default:
		return api.ErrNone
	}
	top.operands = append(top.operands, e)
	m.wanted, m.direct = false, e.Op == api.EName && !outside
	return api.OK
}

// behind takes a token behind an operand: ErrNone if it cannot stand there.
func (m *model) behind(t api.Token) api.Errno {
	if m.wanted {
		return api.ErrNone
	}
	top := m.last()
	if sign(t) == "(" {
		return m.open(func() { m.index(t) })
	}
	m.reduce(prefixRow)
	row := rowIn(sign(t))
	switch {
	case row >= 0 && !(m.target && len(m.levels) == 1):
		return m.operator(t, row)
	case sign(t) == "," && top.opening == "call" && len(top.kids)+1 < mostArgs:
		top.kids = append(top.kids, m.finished())
		m.wanted = true
		return api.OK
	case sign(t) == "downto" && (top.opening == "call" || top.opening == "index") && len(top.kids) == 0:
		top.kids, top.opening = []api.Expr{m.finished()}, "low"
		m.wanted = true
		return api.OK
	case sign(t) == ")" && len(m.levels) > 1:
		m.shut()
		return api.OK
	}
	return api.ErrNone
}

// index takes the bracket behind the last operand.
func (m *model) index(t api.Token) {
	top := m.last()
	inner := &level{opening: "index", bracket: t, base: top.operands[len(top.operands)-1]}
	if m.direct {
		inner.opening = "call"
	}
	top.operands = top.operands[:len(top.operands)-1]
	m.levels = append(m.levels, inner)
}

func (m *model) operator(t api.Token, row int) api.Errno {
	top := m.last()
	isComparison := operators[row][0] == "="
	if isComparison {
		m.reduce(row + 1)
		if slices.Contains(top.rows, row) {
			return api.ErrNone
		}
	}
	m.reduce(row)
	top.push(t, row)
	m.wanted = true
	return api.OK
}

// shut takes the bracket that ends the last level.
func (m *model) shut() {
	top := m.last()
	e := m.finished()
	m.levels = m.levels[:len(m.levels)-1]
	m.depth--
	switch {
	case top.opening == "brackets":
	case top.opening == "low":
		e = at(slice(top.base, top.kids[0], e), top.bracket.Line, top.bracket.Col)
	case top.base.Op == api.EName:
		e = at(call(top.base.Name, append(top.kids, e)...), top.base.Line, top.base.Col)
	default:
		e = at(index(top.base, e), top.bracket.Line, top.bracket.Col)
	}
	outer := m.last()
	outer.operands = append(outer.operands, e)
	m.wanted, m.direct = false, false
}

// finished returns the expression of the last level, and empties its stacks.
func (m *model) finished() api.Expr {
	top := m.last()
	m.reduce(0)
	e := top.operands[0]
	top.operands = nil
	return e
}

func (l *level) push(t api.Token, row int) {
	l.operators, l.rows = append(l.operators, t), append(l.rows, row)
}

// reduce joins the operators that wait in the last level, down to those of a row.
func (m *model) reduce(row int) {
	l := m.last()
	for n := len(l.rows) - 1; n >= 0 && l.rows[n] >= row; n-- {
		kids := 2
		if l.rows[n] == prefixRow {
			kids = 1
			m.depth--
		}
		rest := len(l.operands) - kids
		e := call(l.operators[n].Text, slices.Clone(l.operands[rest:])...)
		l.operands = append(l.operands[:rest], at(e, l.operators[n].Line, l.operators[n].Col))
		l.operators, l.rows = l.operators[:n], l.rows[:n]
	}
}

// expectedType returns what Type is to give.
func expectedType(l []api.Token, at int) (api.TypeRef, int, api.Fault) {
	r, at, fault := expectedSimple(l, at, "array")
	if fault != (api.Fault{}) || r.Name != "array" {
		return r, at, fault
	}
	if at == len(l) || sign(l[at]) != "of" {
		return api.TypeRef{}, 0, expectedFault(l, at)
	}
	element, at, fault := expectedSimple(l, at+1, "")
	if fault != (api.Fault{}) {
		return api.TypeRef{}, 0, fault
	}
	r.Elem = []api.TypeRef{element}
	return r, at, fault
}

// expectedSimple returns a name, or vec or another word with its length.
func expectedSimple(l []api.Token, at int, other string) (api.TypeRef, int, api.Fault) {
	if at == len(l) {
		return api.TypeRef{}, 0, expectedFault(l, at)
	}
	r := api.TypeRef{Name: l[at].Text, Line: l[at].Line, Col: l[at].Col}
	word := sign(l[at])
	switch {
	case l[at].Op == api.TokName:
		return r, at + 1, api.Fault{}
	case word == "" || word != "vec" && word != other:
		return api.TypeRef{}, 0, expectedFault(l, at)
	case at+1 == len(l) || sign(l[at+1]) != "(":
		return api.TypeRef{}, 0, expectedFault(l, at+1)
	}
	m := model{depth: 1}
	length, next, fault := m.run(l, at+2)
	if fault != (api.Fault{}) {
		return api.TypeRef{}, 0, fault
	}
	if next == len(l) || sign(l[next]) != ")" {
		return api.TypeRef{}, 0, expectedFault(l, next)
	}
	r.Len = []api.Expr{length}
	return r, next + 1, api.Fault{}
}

// expectedFault returns the fault of a token that cannot stand where it is.
func expectedFault(l []api.Token, at int) api.Fault {
	if at == len(l) {
		return api.Fault{Code: api.ErrEnd}
	}
	return faultOf(api.ErrSyntax, l[at])
}
