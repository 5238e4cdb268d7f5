package parser

import (
	"netwright/api"
	"netwright/expr"
)

// design reads units up to the end of the string.
func (p *parser) design() []api.Unit {
	var l []api.Unit
	for p.At < len(p.List) {
		u := p.unit()
		l = append(l, u)
	}
	if p.End.Code != api.ErrEnd {
		panic(p.End)
	}
	return l
}

func (p *parser) unit() api.Unit {
	first := p.Next()
	u := api.Unit{Line: first.Line, Col: first.Col}
	switch {
	case p.Accept("package"):
		u.Op = api.UPackage
		u.Name = p.name()
		p.Expect("is")
		u.Decls = until(p, p.decl, "end")
	case p.Accept("module"):
		u.Op = api.UModule
		p.module(&u)
	default:
		panic(p.Fault(api.ErrSyntax))
	}
	p.Expect("end")
	p.Expect(";")
	return u
}

// module reads a module from its name to the end of its body.
func (p *parser) module(u *api.Unit) {
	u.Name = p.name()
	if p.Accept("generic") {
		u.Generics = bracketed(p, p.generic, ";")
	}
	u.Ports = ports(p, p.port, ";")
	p.Expect("is")
	u.Decls = until(p, p.decl, "begin")
	p.Expect("begin")
	u.Body = until(p, p.conc, "end")
}

func (p *parser) generic() api.Param {
	g := p.param()
	g.Init = p.optional(":=")
	return g
}

// param reads a parameter of a function.
func (p *parser) param() api.Param {
	a := p.placed()
	a.Ref = part(p, expr.Type)
	return a
}

func (p *parser) port() api.Param {
	a := p.placed()
	switch {
	case p.Accept("in"):
		a.Mode = api.In
	case p.Accept("out"):
		a.Mode = api.Out
	default:
		panic(p.Fault(api.ErrSyntax))
	}
	a.Ref = part(p, expr.Type)
	return a
}

// placed reads the name and the colon with which each parameter begins.
func (p *parser) placed() api.Param {
	t := p.Need(api.TokName)
	p.Expect(":")
	return api.Param{Name: t.Text, Line: t.Line, Col: t.Col}
}

func (p *parser) decl() api.Decl {
	first := p.Next()
	d := api.Decl{Line: first.Line, Col: first.Col}
	switch {
	case p.Accept("const"):
		d.Op = api.DConst
		p.typed(&d)
		p.Expect(":=")
		d.Init = []api.Expr{p.expression()}
	case p.Accept("type"):
		d.Op = api.DType
		d.Name = p.name()
		p.Expect("is")
		d.Names = bracketed(p, p.name, ",")
	case p.Accept("signal"):
		d.Op = api.DSignal
		p.typed(&d)
		d.Init = p.optional(":=")
	case p.Accept("var"):
		d.Op = api.DVar
		p.typed(&d)
		d.Init = p.optional(":=")
	case p.Accept("function"):
		d.Op = api.DFun
		p.function(&d)
	case p.Accept("use"):
		d.Op = api.DUse
		d.Name = p.name()
	default:
		panic(p.Fault(api.ErrSyntax))
	}
	p.Expect(";")
	return d
}

// typed reads the name and the type of an object.
func (p *parser) typed(d *api.Decl) {
	d.Name = p.name()
	p.Expect(":")
	d.Ref = part(p, expr.Type)
}

// function reads a function from its name to the word end.
func (p *parser) function(d *api.Decl) {
	d.Name = p.name()
	d.Params = bracketed(p, p.param, ";")
	p.Expect("return")
	d.Ref = part(p, expr.Type)
	p.Expect("is")
	d.Decls = until(p, p.decl, "begin")
	p.Expect("begin")
	d.Body = until(p, p.stmt, "end")
	p.Expect("end")
}
