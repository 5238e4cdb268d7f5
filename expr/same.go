package expr

import (
	"slices"

	"netwright/api"
	"netwright/trees"
)

// comparer compares what may have parts of its own kind.
type comparer struct{ trees.Comparer }

// expressions reports whether two expressions are the same but for positions.
func (c *comparer) expressions(a, b *api.Expr) bool {
	return a.Op == b.Op && a.Name == b.Name && a.N == b.N && slices.Equal(a.Bits, b.Bits) &&
		c.values(&a.Val, &b.Val) && c.types(&a.Type, &b.Type) && trees.Each(&c.Comparer, a.Kids, b.Kids, c.expressions)
}

func (c *comparer) values(v, w *api.Value) bool {
	return v.Kind == w.Kind && v.N == w.N && slices.Equal(v.Bits, w.Bits) && trees.Each(&c.Comparer, v.List, w.List, c.values)
}

func (c *comparer) types(t, u *api.Type) bool {
	return t.Kind == u.Kind && t.Len == u.Len && t.Name == u.Name && slices.Equal(t.Names, u.Names) && trees.Each(&c.Comparer, t.Elem, u.Elem, c.types)
}
