package parser

import (
	"strings"
	"testing"

	"netwright/api"
	"netwright/expr"
	"netwright/lexer"
)

// noToken is written for what cannot be written.
const noToken = "?"

// scribe writes trees, also such as are not valid: of these just what it can.
type scribe struct {
	words []string              // each of them one token
	later []func(l []api.Token) // what is to be done when the tokens have positions
}

// written returns the words of units, and what gives the units the positions of tokens.
func written(l []api.Unit) ([]string, func(l []api.Token)) {
	w := scribe{}
	for i := range l {
		w.unit(&l[i])
	}
	return w.words, func(tokens []api.Token) {
		for _, place := range w.later {
			place(tokens)
		}
	}
}

// textOf returns the string of units with single blanks.
func textOf(l []api.Unit) string {
	words, _ := written(l)
	return strings.Join(words, " ")
}

// placed returns a string of valid units with gaps between the tokens, and the units with their positions in it.
func placed(t *testing.T, l []api.Unit, gap func(before, behind string) string) (string, []api.Unit) {
	t.Helper()
	l = copied(l)
	words, place := written(l)
	s := spaced(words, gap)
	tokens, fault := lexer.Lex(s)
	if fault != (api.Fault{}) || len(tokens) != len(words) {
		t.Fatalf("Lex(%.200q): %d tokens for %d words, fault %v", s, len(tokens), len(words), fault)
	}
	place(tokens)
	return s, l
}

// spaced returns words with gaps between them, and on both ends.
func spaced(words []string, gap func(before, behind string) string) string {
	var s strings.Builder
	before := ""
	for _, word := range words {
		s.WriteString(gap(before, word) + word)
		before = word
	}
	return s.String() + gap(before, "")
}

func blanks(before, behind string) string {
	if before == "" || behind == "" {
		return ""
	}
	return " "
}

func (w *scribe) put(words ...string) { w.words = append(w.words, words...) }

// mark gives a node the position of the next word.
func (w *scribe) mark(line, col *int) {
	i := len(w.words)
	w.later = append(w.later, func(l []api.Token) { *line, *col = l[i].Line, l[i].Col })
}

// quote writes what package expr writes, and reads it at its place.
func quote[T any](w *scribe, part *T, text func(T) (string, api.Errno), read func([]api.Token, int) (T, int, api.Fault)) {
	s, err := text(*part)
	if err != api.OK {
		w.put(noToken)
		return
	}
	i := len(w.words)
	w.put(strings.Fields(s)...)
	w.later = append(w.later, func(l []api.Token) { *part, _, _ = read(l, i) })
}

func (w *scribe) expr(e *api.Expr) { quote(w, e, expr.Text, expr.Parse) }

func (w *scribe) ref(r *api.TypeRef) { quote(w, r, expr.TypeText, expr.Type) }

func (w *scribe) target(e *api.Expr) {
	if !expr.IsTarget(*e) {
		w.put(noToken)
		return
	}
	quote(w, e, expr.Text, expr.Target)
}

func (w *scribe) named(e *api.Expr) {
	if e.Op != api.EName {
		w.put(noToken)
		return
	}
	w.expr(e)
}

// list writes parts with a sign between them.
func list[T any](w *scribe, l []T, sign string, write func(*T)) {
	for i := range l {
		if i > 0 {
			w.put(sign)
		}
		write(&l[i])
	}
}

// behind writes each expression with a word before it.
func (w *scribe) behind(word string, l []api.Expr) {
	for i := range l {
		w.put(word)
		w.expr(&l[i])
	}
}

func (w *scribe) unit(u *api.Unit) {
	w.mark(&u.Line, &u.Col)
	switch u.Op {
	case api.UPackage:
		w.put("package", u.Name, "is")
		w.decls(u.Decls)
	case api.UModule:
		w.put("module", u.Name)
		if len(u.Generics) > 0 {
			w.put("generic", "(")
			list(w, u.Generics, ";", w.param)
			w.put(")")
		}
		w.put("port", "(")
		list(w, u.Ports, ";", w.param)
		w.put(")", "is")
		w.decls(u.Decls)
		w.put("begin")
		w.concs(u.Body)
	default:
		w.put(noToken)
	}
	w.put("end", ";")
}

func (w *scribe) param(p *api.Param) {
	w.mark(&p.Line, &p.Col)
	w.put(p.Name, ":")
	switch p.Mode {
	case api.In:
		w.put("in")
	case api.Out:
		w.put("out")
	}
	w.ref(&p.Ref)
	w.behind(":=", p.Init)
}

func (w *scribe) decls(l []api.Decl) {
	for i := range l {
		w.decl(&l[i])
	}
}

func (w *scribe) decl(d *api.Decl) {
	w.mark(&d.Line, &d.Col)
	switch d.Op {
	case api.DConst, api.DSignal, api.DVar:
		w.put(map[api.DeclOp]string{api.DConst: "const", api.DSignal: "signal", api.DVar: "var"}[d.Op], d.Name, ":")
		w.ref(&d.Ref)
		w.behind(":=", d.Init)
	case api.DType:
		w.put("type", d.Name, "is", "(")
		list(w, d.Names, ",", func(s *string) { w.put(*s) })
		w.put(")")
	case api.DFun:
		w.put("function", d.Name, "(")
		list(w, d.Params, ";", w.param)
		w.put(")", "return")
		w.ref(&d.Ref)
		w.put("is")
		w.decls(d.Decls)
		w.put("begin")
		w.stmts(d.Body)
		w.put("end")
	case api.DUse:
		w.put("use", d.Name)
	default:
		w.put(noToken)
	}
	w.put(";")
}

func (w *scribe) concs(l []api.Conc) {
	for i := range l {
		w.conc(&l[i])
	}
}

func (w *scribe) conc(c *api.Conc) {
	w.mark(&c.Line, &c.Col)
	if c.Op == api.CAssign || c.Op == api.CAssert {
		w.stmts(c.Body)
		return
	}
	w.put(c.Label, ":")
	switch c.Op {
	case api.CProcess:
		w.process(c)
	case api.CInst:
		w.put("inst", c.Name)
		if len(c.Generics) > 0 {
			w.put("generic", "(")
			list(w, c.Generics, ",", w.expr)
			w.put(")")
		}
		w.put("port", "(")
		list(w, c.Ports, ",", w.expr)
		w.put(")", ";")
	case api.CFor:
		w.counted(&c.Name, &c.Expr, &c.Last)
		w.put("generate")
		w.concs(c.Then)
		w.put("end", ";")
	case api.CIf:
		w.put("if")
		w.expr(&c.Expr)
		w.put("generate")
		w.concs(c.Then)
		if len(c.Else) > 0 {
			w.put("else")
			w.concs(c.Else)
		}
		w.put("end", ";")
	default:
		w.put(noToken)
	}
}

func (w *scribe) process(c *api.Conc) {
	w.put("process")
	switch {
	case c.All:
		w.put("(", "all", ")")
	case len(c.Sens) > 0:
		w.put("(")
		list(w, c.Sens, ",", w.named)
		w.put(")")
	}
	w.put("is")
	w.decls(c.Decls)
	w.put("begin")
	w.stmts(c.Body)
	w.put("end", ";")
}

func (w *scribe) counted(name *string, first, last *api.Expr) {
	w.put("for", *name, "in")
	w.expr(first)
	w.put("to")
	w.expr(last)
}

func (w *scribe) stmts(l []api.Stmt) {
	for i := range l {
		w.stmt(&l[i])
	}
}

func (w *scribe) stmt(s *api.Stmt) {
	w.mark(&s.Line, &s.Col)
	switch s.Op {
	case api.SVar:
		w.target(&s.Target)
		w.put(":=")
		w.expr(&s.Expr)
	case api.SSig:
		w.target(&s.Target)
		w.put("<=")
		if s.Transport {
			w.put("transport")
		}
		list(w, s.Waves, ",", func(v *api.Wave) {
			w.expr(&v.Expr)
			w.behind("after", v.After)
		})
	case api.SWait:
		w.put("wait")
		if len(s.On) > 0 {
			w.put("on")
			list(w, s.On, ",", w.named)
		}
		w.behind("until", s.Until)
		w.behind("for", s.For)
	case api.SReturn:
		w.put("return")
		w.expr(&s.Expr)
	case api.SAssert:
		w.put("assert")
		w.expr(&s.Expr)
		w.put("report", `"`+s.Text+`"`)
	case api.SNull:
		w.put("null")
	default:
		w.bodied(s)
	}
	w.put(";")
}

// bodied writes a statement that has bodies.
func (w *scribe) bodied(s *api.Stmt) {
	bodies := s.Bodies
	next := func() {
		if len(bodies) == 0 {
			w.put(noToken)
			return
		}
		w.stmts(bodies[0])
		bodies = bodies[1:]
	}
	switch s.Op {
	case api.SIf:
		for i := range s.Conds {
			w.put([]string{"if", "elsif"}[min(i, 1)])
			w.expr(&s.Conds[i])
			w.put("then")
			next()
		}
		w.rest(&bodies, "else")
	case api.SCase:
		w.put("case")
		w.expr(&s.Expr)
		w.put("is")
		for i := range s.Choices {
			w.put("when")
			list(w, s.Choices[i], ",", w.expr)
			w.put("=>")
			next()
		}
		w.rest(&bodies, "others", "=>")
	case api.SFor:
		w.counted(&s.Name, &s.Expr, &s.Last)
		w.put("loop")
		next()
	case api.SWhile:
		w.put("while")
		w.expr(&s.Expr)
		w.put("loop")
		next()
	default:
		w.put(noToken)
	}
	w.put("end")
	if len(bodies) > 0 {
		w.put(noToken)
	}
}

// rest writes the last body, if it is there.
func (w *scribe) rest(bodies *[][]api.Stmt, words ...string) {
	if len(*bodies) == 1 {
		w.put(words...)
		w.stmts((*bodies)[0])
		*bodies = nil
	}
}
