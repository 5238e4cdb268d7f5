package parser

import (
	"netwright/api"
	"netwright/expr"
)

func (p *parser) stmt() api.Stmt {
	first := p.Next()
	s := api.Stmt{Line: first.Line, Col: first.Col}
	switch {
	case p.Accept("if"):
		s.Op = api.SIf
		p.branches(&s, first)
	case p.Accept("case"):
		s.Op = api.SCase
		p.choices(&s, first)
	case p.Accept("for"):
		s.Op = api.SFor
		s.Name, s.Expr, s.Last = p.counter()
		p.loop(&s, first)
	case p.Accept("while"):
		s.Op = api.SWhile
		s.Expr = p.expression()
		p.loop(&s, first)
	case p.Accept("wait"):
		s.Op = api.SWait
		p.wait(&s)
	case p.Accept("return"):
		s.Op = api.SReturn
		s.Expr = p.expression()
	case p.Accept("assert"):
		s.Op = api.SAssert
		s.Expr = p.expression()
		p.Expect("report")
		s.Text = p.Need(api.TokText).Text
	case p.Accept("null"):
		s.Op = api.SNull
	default:
		return p.assignment()
	}
	p.Expect(";")
	return s
}

// assignment reads an assignment of a variable or of a signal.
func (p *parser) assignment() api.Stmt {
	s := p.targeted()
	if !p.Accept(":=") {
		return p.driven(s)
	}
	s.Op = api.SVar
	s.Expr = p.expression()
	p.Expect(";")
	return s
}

// signalAssignment reads an assignment of a signal.
func (p *parser) signalAssignment() api.Stmt { return p.driven(p.targeted()) }

// targeted reads the target of an assignment.
func (p *parser) targeted() api.Stmt {
	first := p.Next()
	return api.Stmt{Target: part(p, expr.Target), Line: first.Line, Col: first.Col}
}

// driven reads what is behind the target of an assignment of a signal.
func (p *parser) driven(s api.Stmt) api.Stmt {
	s.Op = api.SSig
	p.Expect("<=")
	s.Transport = p.Accept("transport")
	s.Waves = row(p, p.wave, ",")
	p.Expect(";")
	return s
}

func (p *parser) wave() api.Wave {
	w := api.Wave{Expr: p.expression()}
	w.After = p.optional("after")
	return w
}

// branches reads an if from its first condition to the word end.
func (p *parser) branches(s *api.Stmt, opener api.Token) {
	p.branch(s, opener)
	for p.Accept("elsif") {
		p.branch(s, opener)
	}
	if p.Accept("else") {
		body := nested(p, opener, p.stmt, "end")
		s.Bodies = append(s.Bodies, body)
	}
	p.Expect("end")
}

// branch reads a condition of an if and its body.
func (p *parser) branch(s *api.Stmt, opener api.Token) {
	condition := p.expression()
	s.Conds = append(s.Conds, condition)
	p.Expect("then")
	body := nested(p, opener, p.stmt, "elsif", "else", "end")
	s.Bodies = append(s.Bodies, body)
}

// choices reads a case from its expression to the word end.
func (p *parser) choices(s *api.Stmt, opener api.Token) {
	s.Expr = p.expression()
	p.Expect("is")
	for p.Accept("when") {
		choice := row(p, p.expression, ",")
		s.Choices = append(s.Choices, choice)
		p.Expect("=>")
		body := nested(p, opener, p.stmt, "when", "others", "end")
		s.Bodies = append(s.Bodies, body)
	}
	if p.Accept("others") {
		p.Expect("=>")
		body := nested(p, opener, p.stmt, "end")
		s.Bodies = append(s.Bodies, body)
	}
	p.Expect("end")
}

// loop reads the body of a loop.
func (p *parser) loop(s *api.Stmt, opener api.Token) {
	p.Expect("loop")
	s.Bodies = [][]api.Stmt{nested(p, opener, p.stmt, "end")}
	p.Expect("end")
}

func (p *parser) wait(s *api.Stmt) {
	if p.Accept("on") {
		s.On = row(p, p.named, ",")
	}
	s.Until = p.optional("until")
	s.For = p.optional("for")
}
