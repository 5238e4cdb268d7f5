package parser

import (
	"slices"

	"netwright/api"
	"netwright/expr"
	"netwright/trees"
)

// comparer compares parts of units: whether they are the same but for positions.
type comparer struct{ trees.Comparer }

func (c *comparer) units(a, b []api.Unit) bool { return trees.Each(&c.Comparer, a, b, c.unit) }

func (c *comparer) unit(a, b *api.Unit) bool {
	return a.Op == b.Op && a.Name == b.Name && c.params(a.Generics, b.Generics) && c.params(a.Ports, b.Ports) &&
		c.decls(a.Decls, b.Decls) && c.concs(a.Body, b.Body)
}

func (c *comparer) params(a, b []api.Param) bool { return trees.Each(&c.Comparer, a, b, c.param) }

func (c *comparer) param(a, b *api.Param) bool {
	return a.Name == b.Name && a.Mode == b.Mode && c.ref(&a.Ref, &b.Ref) && sameExprs(a.Init, b.Init)
}

func (c *comparer) ref(a, b *api.TypeRef) bool {
	return a.Name == b.Name && sameExprs(a.Len, b.Len) && trees.Each(&c.Comparer, a.Elem, b.Elem, c.ref)
}

func (c *comparer) decls(a, b []api.Decl) bool { return trees.Each(&c.Comparer, a, b, c.decl) }

func (c *comparer) decl(a, b *api.Decl) bool {
	return a.Op == b.Op && a.Name == b.Name && c.ref(&a.Ref, &b.Ref) && slices.Equal(a.Names, b.Names) && sameExprs(a.Init, b.Init) &&
		c.params(a.Params, b.Params) && c.decls(a.Decls, b.Decls) && c.body(a.Body, b.Body)
}

func (c *comparer) concs(a, b []api.Conc) bool { return trees.Each(&c.Comparer, a, b, c.conc) }

func (c *comparer) conc(a, b *api.Conc) bool {
	return sameConcFields(a, b) && c.decls(a.Decls, b.Decls) && c.body(a.Body, b.Body) && c.concs(a.Then, b.Then) && c.concs(a.Else, b.Else)
}

// sameConcFields compares what has no statements in it. It is a function of its own as it needs much more memory than the way down a tree.
func sameConcFields(a, b *api.Conc) bool {
	return a.Op == b.Op && a.Label == b.Label && a.Name == b.Name && sameExprs(a.Sens, b.Sens) && a.All == b.All &&
		sameExprs(a.Generics, b.Generics) && sameExprs(a.Ports, b.Ports) && expr.Same(a.Expr, b.Expr) && expr.Same(a.Last, b.Last)
}

func (c *comparer) body(a, b []api.Stmt) bool { return trees.Each(&c.Comparer, a, b, c.stmt) }

func (c *comparer) stmt(a, b *api.Stmt) bool {
	return sameStmtFields(a, b) && slices.EqualFunc(a.Bodies, b.Bodies, c.body)
}

// sameStmtFields is to statements what sameConcFields is to concurrent ones.
func sameStmtFields(a, b *api.Stmt) bool {
	return a.Op == b.Op && a.Name == b.Name && a.N == b.N && a.Transport == b.Transport && a.Text == b.Text &&
		expr.Same(a.Target, b.Target) && expr.Same(a.Expr, b.Expr) && expr.Same(a.Last, b.Last) &&
		slices.EqualFunc(a.Waves, b.Waves, sameWaves) && sameExprs(a.Conds, b.Conds) && slices.EqualFunc(a.Choices, b.Choices, sameExprs) &&
		sameExprs(a.On, b.On) && sameExprs(a.Until, b.Until) && sameExprs(a.For, b.For)
}

func sameWaves(a, b api.Wave) bool { return expr.Same(a.Expr, b.Expr) && sameExprs(a.After, b.After) }

func sameExprs(a, b []api.Expr) bool { return slices.EqualFunc(a, b, expr.Same) }
