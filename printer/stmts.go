package printer

import "netwright/api"

func (w *writer) stmt(s *api.Stmt) {
	switch s.Op {
	case api.SVar:
		w.expression(&s.Target)
		w.put(":=")
		w.expression(&s.Expr)
	case api.SSig:
		w.drive(s)
	case api.SIf:
		w.branches(s)
	case api.SCase:
		w.choices(s)
	case api.SFor:
		w.counter(s.Name, &s.Expr, &s.Last)
		w.loop(s)
	case api.SWhile:
		w.put("while")
		w.expression(&s.Expr)
		w.loop(s)
	case api.SWait:
		w.wait(s)
	case api.SReturn:
		w.put("return")
		w.expression(&s.Expr)
	case api.SAssert:
		w.put("assert")
		w.expression(&s.Expr)
		w.put("report")
		w.literal(s.Text)
	case api.SNull:
		w.put("null")
	}
	w.end(";")
}

// drive writes an assignment of a signal.
func (w *writer) drive(s *api.Stmt) {
	w.expression(&s.Target)
	w.put("<=")
	if s.Transport {
		w.put("transport")
	}
	row(w, s.Waves, w.wave, ",")
}

func (w *writer) wave(v *api.Wave) {
	w.expression(&v.Expr)
	w.optional("after", v.After)
}

func (w *writer) branches(s *api.Stmt) {
	word := "if"
	for i := range s.Conds {
		w.put(word)
		w.expression(&s.Conds[i])
		w.end("then")
		body(w, s.Bodies[i], w.stmt)
		word = "elsif"
	}
	w.rest(s.Bodies[len(s.Conds):], "else")
	w.put("end")
}

func (w *writer) choices(s *api.Stmt) {
	w.put("case")
	w.expression(&s.Expr)
	w.end("is")
	for i, choice := range s.Choices {
		w.put("when")
		row(w, choice, w.expression, ",")
		w.end("=>")
		body(w, s.Bodies[i], w.stmt)
	}
	w.rest(s.Bodies[len(s.Choices):], "others", "=>")
	w.put("end")
}

// rest writes the body of else or others, if it is there.
func (w *writer) rest(bodies [][]api.Stmt, words ...string) {
	if len(bodies) > 0 {
		w.end(words...)
		body(w, bodies[0], w.stmt)
	}
}

// loop writes the body of a loop.
func (w *writer) loop(s *api.Stmt) {
	w.end("loop")
	body(w, s.Bodies[0], w.stmt)
	w.put("end")
}

func (w *writer) wait(s *api.Stmt) {
	w.put("wait")
	if len(s.On) > 0 {
		w.put("on")
		row(w, s.On, w.expression, ",")
	}
	w.optional("until", s.Until)
	w.optional("for", s.For)
}
