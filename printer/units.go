package printer

import "netwright/api"

func (w *writer) unit(u *api.Unit) {
	switch u.Op {
	case api.UPackage:
		w.put("package", u.Name)
		w.end("is")
		body(w, u.Decls, w.decl)
		w.put("end")
	case api.UModule:
		w.put("module", u.Name)
		generics(w, u.Generics, w.param, ";")
		w.put("port")
		bracketed(w, u.Ports, w.param, ";")
		scope(w, u.Decls, u.Body, w.conc)
	}
	w.end(";")
}

// param writes a generic, a port or a parameter of a function.
func (w *writer) param(p *api.Param) {
	w.put(p.Name, ":")
	switch p.Mode {
	case api.In:
		w.put("in")
	case api.Out:
		w.put("out")
	}
	w.ref(&p.Ref)
	w.optional(":=", p.Init)
}

func (w *writer) decl(d *api.Decl) {
	switch d.Op {
	case api.DConst:
		w.object("const", d)
	case api.DType:
		w.put("type", d.Name, "is")
		bracketed(w, d.Names, w.name, ",")
	case api.DSignal:
		w.object("signal", d)
	case api.DVar:
		w.object("var", d)
	case api.DFun:
		w.put("function", d.Name)
		bracketed(w, d.Params, w.param, ";")
		w.put("return")
		w.ref(&d.Ref)
		scope(w, d.Decls, d.Body, w.stmt)
	case api.DUse:
		w.put("use", d.Name)
	}
	w.end(";")
}

// object writes a constant, a signal or a variable.
func (w *writer) object(word string, d *api.Decl) {
	w.put(word, d.Name, ":")
	w.ref(&d.Ref)
	w.optional(":=", d.Init)
}
