package parser

import (
	"netwright/api"
	"netwright/expr"
	"netwright/lexer"
	"netwright/trees"
)

// checker looks whether parts of units are what a parser can give. Each rule takes what an Op uses out of a copy: the rest has to be zero.
type checker struct {
	depth int // how many statements with bodies, and generate statements, are open
	level int // how many functions are open
}

// all reports whether all parts of a list are valid.
func all[T any](l []T, isValid func(*T) bool) bool {
	for i := range l {
		if !isValid(&l[i]) {
			return false
		}
	}
	return true
}

// allNested reports whether all parts of a body are valid that is one deeper than the statement that opens it.
func allNested[T any](c *checker, body []T, isValid func(*T) bool) bool {
	if c.depth == api.MaxNest {
		return false
	}
	c.depth++
	areValid := all(body, isValid)
	c.depth--
	return areValid
}

func (c *checker) unit(u *api.Unit) bool {
	rest := *u
	rest.Name, rest.Decls = "", nil
	switch u.Op {
	case api.UPackage:
	case api.UModule:
		rest.Generics, rest.Ports, rest.Body = nil, nil, nil
	default:
		return false
	}
	return new(comparer).unit(&rest, &api.Unit{Op: u.Op}) && lexer.IsName(u.Name) &&
		all(u.Generics, isGeneric) && all(u.Ports, isPort) && all(u.Decls, c.decl) && all(u.Body, c.conc)
}

func isGeneric(p *api.Param) bool { return p.Mode == 0 && isOptional(p.Init) && isTyped(p) }

func isPort(p *api.Param) bool {
	return (p.Mode == api.In || p.Mode == api.Out) && len(p.Init) == 0 && isTyped(p)
}

// isParam reports whether p is a parameter of a function.
func isParam(p *api.Param) bool { return p.Mode == 0 && len(p.Init) == 0 && isTyped(p) }

func isTyped(p *api.Param) bool { return lexer.IsName(p.Name) && expr.ValidType(p.Ref) }

func (c *checker) decl(d *api.Decl) bool {
	rest, isValid := *d, false
	rest.Name = ""
	switch d.Op {
	case api.DConst:
		isValid = expr.ValidType(d.Ref) && len(d.Init) == 1 && areExprs(d.Init)
		rest.Ref, rest.Init = api.TypeRef{}, nil
	case api.DType:
		isValid = len(d.Names) > 0 && all(d.Names, isName)
		rest.Names = nil
	case api.DSignal, api.DVar:
		isValid = expr.ValidType(d.Ref) && isOptional(d.Init)
		rest.Ref, rest.Init = api.TypeRef{}, nil
	case api.DFun:
		isValid = c.function(d)
		rest.Ref, rest.Params, rest.Decls, rest.Body = api.TypeRef{}, nil, nil, nil
	case api.DUse:
		isValid = true
	}
	return isValid && lexer.IsName(d.Name) && new(comparer).decl(&rest, &api.Decl{Op: d.Op})
}

func (c *checker) function(d *api.Decl) bool {
	if c.level == trees.MaxLevels {
		return false
	}
	c.level++
	isValid := len(d.Params) > 0 && all(d.Params, isParam) && expr.ValidType(d.Ref) && all(d.Decls, c.decl) && all(d.Body, c.stmt)
	c.level--
	return isValid
}

func (c *checker) conc(x *api.Conc) bool {
	rest, isValid := *x, lexer.IsName(x.Label)
	rest.Label = ""
	switch x.Op {
	case api.CProcess:
		isValid = isValid && !(x.All && len(x.Sens) > 0) && all(x.Sens, isNamed) && all(x.Decls, c.decl) && all(x.Body, c.stmt)
		rest.Sens, rest.All, rest.Decls, rest.Body = nil, false, nil, nil
	case api.CAssign:
		isValid = x.Label == "" && len(x.Body) == 1 && x.Body[0].Op == api.SSig && c.stmt(&x.Body[0])
		rest.Body = nil
	case api.CInst:
		isValid = isValid && lexer.IsName(x.Name) && areExprs(x.Generics) && areExprs(x.Ports)
		rest.Name, rest.Generics, rest.Ports = "", nil, nil
	case api.CFor:
		isValid = isValid && lexer.IsName(x.Name) && expr.Valid(x.Expr) && expr.Valid(x.Last) && allNested(c, x.Then, c.conc)
		rest.Name, rest.Expr, rest.Last, rest.Then = "", api.Expr{}, api.Expr{}, nil
	case api.CIf:
		isValid = isValid && expr.Valid(x.Expr) && allNested(c, x.Then, c.conc) && allNested(c, x.Else, c.conc)
		rest.Expr, rest.Then, rest.Else = api.Expr{}, nil, nil
	case api.CAssert:
		isValid = x.Label == "" && len(x.Body) == 1 && x.Body[0].Op == api.SAssert && c.stmt(&x.Body[0])
		rest.Body = nil
	default:
		return false
	}
	return isValid && new(comparer).conc(&rest, &api.Conc{Op: x.Op})
}

func (c *checker) stmt(s *api.Stmt) bool {
	rest, isValid := *s, false
	switch s.Op {
	case api.SVar:
		isValid = expr.IsTarget(s.Target) && expr.Valid(s.Expr)
		rest.Target, rest.Expr = api.Expr{}, api.Expr{}
	case api.SSig:
		isValid = expr.IsTarget(s.Target) && len(s.Waves) > 0 && all(s.Waves, isWave)
		rest.Target, rest.Waves, rest.Transport = api.Expr{}, nil, false
	case api.SIf:
		isValid = len(s.Conds) > 0 && areExprs(s.Conds) && c.bodies(s.Bodies, len(s.Conds), 1)
		rest.Conds, rest.Bodies = nil, nil
	case api.SCase:
		isValid = expr.Valid(s.Expr) && all(s.Choices, isChoice) && c.bodies(s.Bodies, len(s.Choices), 1)
		rest.Expr, rest.Choices, rest.Bodies = api.Expr{}, nil, nil
	case api.SFor:
		isValid = lexer.IsName(s.Name) && expr.Valid(s.Expr) && expr.Valid(s.Last) && c.bodies(s.Bodies, 1, 0)
		rest.Name, rest.Expr, rest.Last, rest.Bodies = "", api.Expr{}, api.Expr{}, nil
	case api.SWhile:
		isValid = expr.Valid(s.Expr) && c.bodies(s.Bodies, 1, 0)
		rest.Expr, rest.Bodies = api.Expr{}, nil
	case api.SWait:
		isValid = all(s.On, isNamed) && isOptional(s.Until) && isOptional(s.For)
		rest.On, rest.Until, rest.For = nil, nil, nil
	case api.SReturn:
		isValid = expr.Valid(s.Expr)
		rest.Expr = api.Expr{}
	case api.SAssert:
		isValid = expr.Valid(s.Expr) && isText(s.Text)
		rest.Expr, rest.Text = api.Expr{}, ""
	case api.SNull:
		isValid = true
	}
	return isValid && new(comparer).stmt(&rest, &api.Stmt{Op: s.Op})
}

// bodies reports whether the bodies of a statement are valid, and so many, or at most so many more.
func (c *checker) bodies(l [][]api.Stmt, count, more int) bool {
	return len(l) >= count && len(l) <= count+more && all(l, func(body *[]api.Stmt) bool { return allNested(c, *body, c.stmt) })
}

func isWave(w *api.Wave) bool { return expr.Valid(w.Expr) && isOptional(w.After) }

func isChoice(l *[]api.Expr) bool { return len(*l) > 0 && areExprs(*l) }

// isOptional reports whether there is at most one expression, and it is valid.
func isOptional(l []api.Expr) bool { return len(l) <= 1 && areExprs(l) }

func areExprs(l []api.Expr) bool {
	return all(l, func(e *api.Expr) bool { return expr.Valid(*e) })
}

// isNamed reports whether an expression is a name.
func isNamed(e *api.Expr) bool { return e.Op == api.EName && expr.Valid(*e) }

func isName(s *string) bool { return lexer.IsName(*s) }

// isText reports whether s can stand between double quotes.
func isText(s string) bool {
	_, err := lexer.Text([]api.Token{{Op: api.TokText, Text: s}})
	return err == api.OK
}
