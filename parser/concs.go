package parser

import (
	"netwright/api"
	"netwright/tokens"
)

func (p *parser) conc() api.Conc {
	first := p.Next()
	c := api.Conc{Line: first.Line, Col: first.Col}
	switch {
	case p.Sees("assert"):
		c.Op = api.CAssert
		c.Body = []api.Stmt{p.stmt()}
	case p.seesLabel():
		p.labelled(&c)
	default:
		c.Op = api.CAssign
		c.Body = []api.Stmt{p.signalAssignment()}
	}
	return c
}

// seesLabel reports whether the next tokens are a name and a colon.
func (p *parser) seesLabel() bool {
	if p.Next().Op != api.TokName {
		return false
	}
	behind := tokens.Reader{List: p.List, At: p.At + 1}
	return behind.Sees(":")
}

// labelled reads a concurrent statement with a label.
func (p *parser) labelled(c *api.Conc) {
	label := p.Need(api.TokName)
	c.Label = label.Text
	p.Expect(":")
	switch {
	case p.Accept("process"):
		c.Op = api.CProcess
		p.process(c)
	case p.Accept("inst"):
		c.Op = api.CInst
		p.instance(c)
	case p.Accept("for"):
		c.Op = api.CFor
		c.Name, c.Expr, c.Last = p.counter()
		p.Expect("generate")
		c.Then = nested(p, label, p.conc, "end")
		p.Expect("end")
	case p.Accept("if"):
		c.Op = api.CIf
		c.Expr = p.expression()
		p.Expect("generate")
		c.Then = nested(p, label, p.conc, "else", "end")
		if p.Accept("else") {
			c.Else = nested(p, label, p.conc, "end")
		}
		p.Expect("end")
	default:
		panic(p.Fault(api.ErrSyntax))
	}
	p.Expect(";")
}

// process reads a process from its list to the word end.
func (p *parser) process(c *api.Conc) {
	if p.Accept("(") {
		c.All = p.Accept("all")
		if !c.All {
			c.Sens = row(p, p.named, ",")
		}
		p.Expect(")")
	}
	p.Expect("is")
	c.Decls = until(p, p.decl, "begin")
	p.Expect("begin")
	c.Body = until(p, p.stmt, "end")
	p.Expect("end")
}

// instance reads an instance from the name of its module on.
func (p *parser) instance(c *api.Conc) {
	c.Name = p.name()
	if p.Accept("generic") {
		c.Generics = bracketed(p, p.expression, ",")
	}
	c.Ports = ports(p, p.expression, ",")
}
