package expr

import (
	"slices"

	"netwright/api"
)

// comparer compares what may have parts of its own kind.
type comparer struct {
	level int // how many comparisons are open
}

// expressions reports whether two expressions are the same but for positions.
func (c *comparer) expressions(a, b *api.Expr) bool {
	return a.Op == b.Op && a.Name == b.Name && a.N == b.N && slices.Equal(a.Bits, b.Bits) &&
		c.values(&a.Val, &b.Val) && c.types(&a.Type, &b.Type) && each(c, a.Kids, b.Kids, (*comparer).expressions)
}

func (c *comparer) values(v, w *api.Value) bool {
	return v.Kind == w.Kind && v.N == w.N && slices.Equal(v.Bits, w.Bits) && each(c, v.List, w.List, (*comparer).values)
}

func (c *comparer) types(t, u *api.Type) bool {
	return t.Kind == u.Kind && t.Len == u.Len && t.Name == u.Name && slices.Equal(t.Names, u.Names) && each(c, t.Elem, u.Elem, (*comparer).types)
}

// each reports whether two lists have the same parts.
func each[T any](c *comparer, a, b []T, same func(*comparer, *T, *T) bool) bool {
	if len(a) != len(b) || c.level == maxLevels {
		return false
	}
	c.level++
	for i := range a {
		if !same(c, &a[i], &b[i]) {
			return false
		}
	}
	c.level--
	return true
}
