package printer

import "netwright/api"

func (w *writer) conc(c *api.Conc) {
	if c.Op == api.CAssign || c.Op == api.CAssert {
		w.stmt(&c.Body[0])
		return
	}
	w.put(c.Label, ":")
	switch c.Op {
	case api.CProcess:
		w.put("process")
		w.sensitivity(c)
		scope(w, c.Decls, c.Body, w.stmt)
	case api.CInst:
		w.put("inst", c.Name)
		generics(w, c.Generics, w.expression, ",")
		w.put("port")
		bracketed(w, c.Ports, w.expression, ",")
	case api.CFor:
		w.counter(c.Name, &c.Expr, &c.Last)
		w.end("generate")
		body(w, c.Then, w.conc)
		w.put("end")
	case api.CIf:
		w.put("if")
		w.expression(&c.Expr)
		w.end("generate")
		w.alternatives(c)
		w.put("end")
	}
	w.end(";")
}

// sensitivity writes the list of a process, if it has one.
func (w *writer) sensitivity(c *api.Conc) {
	switch {
	case c.All:
		w.put("(", "all", ")")
	case len(c.Sens) > 0:
		bracketed(w, c.Sens, w.expression, ",")
	}
}

// alternatives writes what a generate statement has for a condition that is true, and for one that is not.
func (w *writer) alternatives(c *api.Conc) {
	body(w, c.Then, w.conc)
	if len(c.Else) > 0 {
		w.end("else")
		body(w, c.Else, w.conc)
	}
}
